package gas

import "cairn/api"

const (
	mostTopics = 4
	ofLog      = 375 // a log, and each of its topics
)

// Copy answers what it costs to copy so many bytes: P14.3
func Copy(long api.Word) (uint64, api.Errno) { return byWords(3, long) }

// Keccak answers what it costs to hash so many bytes: P14.3
func Keccak(long api.Word) (uint64, api.Errno) { return byWords(6, long) }

// byWords answers what so many bytes cost at a price for each word.
func byWords(price uint64, long api.Word) (uint64, api.Errno) {
	n, e := inMemory(long)
	if e != api.OK {
		return 0, e
	}
	return price * Words(n), api.OK
}

// Log answers what so many topics and bytes of a log cost: P14.3
func Log(topics int, long api.Word) (uint64, api.Errno) {
	if topics < 0 || topics > mostTopics {
		return 0, api.ErrRange
	}
	n, e := inMemory(long)
	if e != api.OK {
		return 0, e
	}
	return ofLog*uint64(topics) + 8*n, api.OK
}

// Init answers what so many bytes of init code cost: P14.3
func Init(long uint64) uint64 {
	if long > api.MaxMemory {
		return unpayable
	}
	return 2 * Words(long)
}

// Deposit answers what it costs to keep so many bytes as code: P14.3
func Deposit(long uint64) uint64 {
	if long > api.MaxMemory { // 200 long could wrap round
		return unpayable
	}
	return 200 * long
}

// Data answers what the data of a transaction cost: P14.3
func Data(b []byte) uint64 {
	var sum uint64
	for _, x := range b {
		if x == 0 {
			sum += 4
		} else {
			sum += 16
		}
	}
	return sum
}
