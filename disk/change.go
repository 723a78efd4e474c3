package disk

// change is something that was done to a file's data and is not safe yet: a write or a cut. What apply and survive are given is theirs
// to work on, and to be used no more.
type change interface {
	apply(data []byte) []byte          // data with the change done
	survive(data []byte, k int) []byte // data with as much of it done as the number k lets survive a death
	clone() change
}

// write puts bytes from a place on.
type write struct {
	at    int
	bytes []byte
}

// cut makes data as long as it says.
type cut struct {
	long int
}

func (w write) apply(data []byte) []byte {
	if end := w.at + len(w.bytes); len(data) < end {
		data = lengthen(data, end)
	}
	copy(data[w.at:], w.bytes)
	return data
}

func (w write) survive(data []byte, k int) []byte {
	if k < 0 {
		return w.apply(data)
	}
	n := k % (len(w.bytes) + 1)
	if n == 0 { // a write of none would still put noughts up to its place
		return data
	}
	return write{at: w.at, bytes: w.bytes[:n]}.apply(data)
}

func (w write) clone() change {
	return write{at: w.at, bytes: copyBytes(w.bytes)}
}

func (c cut) apply(data []byte) []byte {
	if len(data) < c.long {
		return lengthen(data, c.long)
	}
	return data[:c.long]
}

func (c cut) survive(data []byte, k int) []byte {
	if k < 0 || k%2 == 1 {
		return c.apply(data)
	}
	return data
}

func (c cut) clone() change {
	return c
}

// lengthen puts noughts behind data till they have long bytes. They are written, not uncovered: behind a cut there may lie old bytes.
func lengthen(data []byte, long int) []byte {
	return append(data, make([]byte, long-len(data))...)
}
