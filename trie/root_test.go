package trie_test

import (
	"bytes"
	"slices"
	"strings"
	"testing"

	"cairn/api"
	"cairn/digest"
	"cairn/rlp"
	"cairn/trie"
)

// pair is a pair of texts.
func pair(key, value string) api.Pair { return api.Pair{Key: []byte(key), Value: []byte(value)} }

func TestRootOfPairs(t *testing.T) { // P12.6
	r := row(10)
	for range 300 {
		h := r.has(14)
		l := h.pairs()
		for range 3 { // in any order
			if root, e := trie.Root(l); root != rootOf(h) || e != api.OK {
				t.Errorf("%s: %x, %d", line(l), root, e)
			}
			for i := range l {
				j := r.below(i + 1)
				l[i], l[j] = l[j], l[i]
			}
		}
	}
	for _, none := range [][]api.Pair{nil, {}} {
		if root, e := trie.Root(none); root != trie.Empty() || e != api.OK {
			t.Errorf("no pairs: %x, %d", root, e)
		}
	}
}

func TestRootsThatAreKnown(t *testing.T) { // P12.6: roots that others came to
	for want, h := range map[string]has{
		"5991bb8c6514148a29db676a14ac506cd2cd5775ace63c30a4fe457715e9ac84": {"do": "verb", "dog": "puppy", "doge": "coin", "horse": "stallion"},
		"8aad789dff2f538bca5d8ea56e8abe10f4c7ba3a5dea95fea4cd6e7c3a1168d3": {"doe": "reindeer", "dog": "puppy", "dogglesworth": "cat"},
		"d23786fb4a010da3ce639d66d5e904a11dbc02746d1ce25029e53290cabf28ab": {"A": strings.Repeat("a", 50)},
		"17beaa1648bafa633cda809c90c04af50fc8aed3cb40d16efbddee6fdf63c4c3": {"foo": "bar", "food": "bass"},
		"3f67c7a47520f79faa29255d2d3c084a7a6df0453116ed7232ff10277a8be68b": {"be": "e", "dog": "puppy", "bed": "d"},
		"8452568af70d8d140f58d941338542f645fcca50094b20f3c3d8c3df49337928": {"test": "test", "te": "testy"},
		"285505fcabe84badc8aa310e2aae17eddc7d120aabec8a476902c8184b3a3503": {"\x00\x45": "\x01\x23\x45\x67\x89", "\x45\x00": "\x98\x76\x54\x32\x10"},
	} {
		root, e := trie.Root(h.pairs())
		wantErrno(t, "Root", e, api.OK)
		wantBytes(t, line(h.pairs()), root[:], want)
	}
}

func TestRootOfNoMap(t *testing.T) { // P12.6
	key, value := longest()
	longKey, longValue := pair(string(key)+"1", "v"), pair("k", string(value)+"1")
	for what, c := range map[string]struct {
		l    []api.Pair
		want api.Errno
	}{
		"a long key":                  {[]api.Pair{pair("a", "1"), longKey}, api.ErrLong},
		"a long value":                {[]api.Pair{longValue, pair("a", "1")}, api.ErrLong},
		"two keys alike":              {[]api.Pair{pair("a", "1"), pair("b", "2"), pair("a", "3")}, api.ErrTrie},
		"two pairs alike":             {[]api.Pair{pair("a", "1"), pair("a", "1")}, api.ErrTrie},
		"two empty keys":              {[]api.Pair{pair("", "1"), {Value: []byte("2")}}, api.ErrTrie},
		"an empty value":              {[]api.Pair{pair("a", "1"), pair("b", "")}, api.ErrTrie},
		"no value":                    {[]api.Pair{{Key: []byte("a")}}, api.ErrTrie},
		"nothing at all":              {[]api.Pair{{}}, api.ErrTrie},
		"an empty value of a key had": {[]api.Pair{pair("a", "1"), pair("a", "")}, api.ErrTrie},
		"a long one behind two alike": {[]api.Pair{pair("a", "1"), pair("a", "1"), longKey}, api.ErrLong},
		"a long one behind no value":  {[]api.Pair{pair("a", ""), longValue}, api.ErrLong},
		"a long key without a value":  {[]api.Pair{pair(string(key)+"1", "")}, api.ErrLong},
	} {
		if h, e := trie.Root(c.l); e != c.want || h != (api.Hash{}) {
			t.Errorf("%s: %x, %d, want %d", what, h, e, c.want)
		}
	}
	h := has{string(key): string(value), string(key[:63]): "v"}
	if root, e := trie.Root(h.pairs()); e != api.OK || root != rootOf(h) {
		t.Errorf("the longest: %x, %d", root, e)
	}
}

// listed is the map that a list is the root of.
func listed(l [][]byte) has {
	h := has{}
	for i, b := range l {
		if len(b) > 0 && len(b) <= api.MaxTrieValue {
			h[string(form(rlp.Number(uint64(i))))] = string(b)
		}
	}
	return h
}

func TestListRoot(t *testing.T) { // P12.6
	want := func(what string, l [][]byte) {
		t.Helper()
		if h := trie.ListRoot(l); h != rootOf(listed(l)) {
			t.Errorf("%s: %x, want %x", what, h, rootOf(listed(l)))
		}
	}
	want("none", nil)
	want("no items", [][]byte{})
	want("only empty ones", [][]byte{nil, {}, nil})
	var l [][]byte
	for i := range 300 { // beyond 127 the numbers' forms have two bytes, beyond 255 three
		l = append(l, bytes.Repeat([]byte{byte(i)}, 1+i%40))
		if i < 20 || i > 120 && i < 135 || i > 250 && i < 262 {
			want("a list", l)
		}
	}
	want("a list of 300", l)
	for _, i := range []int{0, 1, 127, 128, 255, 256, 299} {
		less := slices.Clone(l)
		less[i] = nil
		want("one left out", less)
	}
	_, value := longest()
	want("the longest", [][]byte{value, []byte("v")})
	want("too long", [][]byte{[]byte("v"), append(value, 1), []byte("w")})
	want("only one too long", [][]byte{append(value, 1)})

	if h := trie.ListRoot([][]byte{[]byte("v")}); h != hashOf(form(leafOf("v", 8, 0))) { // the number 0 has the empty text's form
		t.Errorf("one item: %x", h)
	}
	if trie.ListRoot(nil) != trie.Empty() || trie.ListRoot([][]byte{{}}) != trie.Empty() {
		t.Error("no items")
	}
}

func TestSecure(t *testing.T) { // P12.6
	for _, b := range [][]byte{nil, {}, []byte("abc"), make([]byte, 20), make([]byte, 1000)} {
		h := digest.Keccak(b)
		wantText(t, "Secure", string(trie.Secure(b)), string(h[:]))
	}
	one := trie.Secure(nil)
	clear(one[:cap(one)])
	wantBytes(t, "of nothing", trie.Secure(nil), "c5d2460186f7233c927e7db2dcc703c0e500b653ca82273b7bfad8045d85a470")
}
