package wal

// copyList answers a list with a copy of each thing of l.
func copyList[T any](l []T, copyOne func(T) T) []T {
	c := make([]T, len(l))
	for i, x := range l {
		c[i] = copyOne(x)
	}
	return c
}

func copyBatch(batch [][]byte) [][]byte { return copyList(batch, copyBytes) }

func copyBytes(record []byte) []byte {
	c := make([]byte, len(record))
	copy(c, record)
	return c
}
