package kzg

import "cairn/word"

// powerDigits are x and y of tau Base1.
const powerDigits = "0d3eb50121139aa34db1d545093ac9374ab7bca2c0f3bf28e27c8dcd8fc7cb42d25926fc0c97b336e9f0fb35e5a04c81" +
	"17de623f59a3043952d2f637a935fae14b6dee8b255e526304963d58ab6f1a827c7de623d34d394f8a3d0f57d6e972b9"

// setupDigits are x0, x1, y0 and y1 of tau Base2.
const setupDigits = "185cbfee53492714734429b7b38608e23926c911cceceac9a36851477ba4c60b087041de621000edc98edada20c1def2" +
	"15bfd7dd8cdeb128843bc287230af38926187075cbfbefa81009a2ce615ac53d2914e5870cb452d2afaaab24f3499f72" +
	"014353bdb96b626dd7d5ee8599d1fca2131569490e28de18e82451a496a9c9794ce26d105941f383ee689bfbbb832a99" +
	"1666c54b0a32529503432fcae0181b4bef79de09fc63671fda5ed1ba9bfa07899495346f3d7ac9cd23048ef30d0a154f"

// limbDigits is how many digits to the base 16 a limb has.
const limbDigits = 16

// reader answers a function that reads one number behind the other out of digits to the base 16.
func reader(digits string) func() limbs {
	return func() limbs {
		var n limbs
		for i := range len(n) {
			// The highest digits stand first. So few of them are a word: no error comes of it.
			limb, _ := word.Parse("0x" + digits[:limbDigits])
			n[len(n)-1-i] = limb[0]
			digits = digits[limbDigits:]
		}
		return n
	}
}
