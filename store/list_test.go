package store

import (
	"fmt"
	"maps"
	"slices"
	"strings"
	"testing"
)

// step answers a number below n that is the same at every run.
func step(seed *uint64, n int) int {
	*seed = *seed*6364136223846793005 + 1442695040888963407
	return int(*seed >> 33 % uint64(n))
}

func listText(l list[int]) string {
	var parts []string
	for _, e := range l {
		parts = append(parts, fmt.Sprint(e.key, " ", e.value))
	}
	return strings.Join(parts, ", ")
}

func mapText(m map[string]int, from string) string {
	var l list[int]
	for _, key := range slices.Sorted(maps.Keys(m)) {
		if key >= from {
			l = append(l, entry[int]{key, m[key]})
		}
	}
	return listText(l)
}

// randomList answers a list of at most so many entries, and does them to a map.
func randomList(seed *uint64, most int, value int, m map[string]int) list[int] {
	part := map[string]int{}
	for range step(seed, most+1) {
		part[fmt.Sprint(step(seed, 60))] = value
	}
	maps.Copy(m, part)
	var l list[int]
	for _, key := range slices.Sorted(maps.Keys(part)) {
		l = append(l, entry[int]{key, value})
	}
	return l
}

func TestRunsAreAsAMap(t *testing.T) {
	for n := range 300 {
		seed := uint64(n)
		var r runs[int]
		m := map[string]int{}
		for i := range 40 {
			r = r.with(randomList(&seed, 1+step(&seed, 9), i, m))
			from := fmt.Sprint(step(&seed, 70))
			if got, want := listText(gather(r.over(nothing, from), 0)), mapText(m, from); got != want {
				t.Fatalf("seed %d, step %d: from %s: %s, want %s", n, i, from, got, want)
			}
			if got, want := listText(r.merged()), mapText(m, ""); got != want {
				t.Fatalf("seed %d, step %d: %s, want %s", n, i, got, want)
			}
			for k := range 61 {
				key := fmt.Sprint(k)
				got, is := r.get(key)
				if want, there := m[key]; got != want || is != there {
					t.Fatalf("seed %d, step %d: %s has %d, %v, want %d, %v", n, i, key, got, is, want, there)
				}
			}
		}
	}
}

func TestRunsAreFew(t *testing.T) {
	seed := uint64(1)
	var r runs[int]
	for i := range 20000 {
		r = r.with(list[int]{{key: fmt.Sprint(step(&seed, 1<<20)), value: i}})
		for j := 1; j < len(r); j++ {
			if len(r[j-1]) < 2*len(r[j]) {
				t.Fatalf("put %d: a list of %d over one of %d", i, len(r[j]), len(r[j-1]))
			}
		}
	}
}

func TestRunsOfOldAreLeftAlone(t *testing.T) {
	seed := uint64(2)
	var all []runs[int]
	var texts []string
	var r runs[int]
	m := map[string]int{}
	for i := range 200 {
		r = r.with(randomList(&seed, 6, i, m))
		all, texts = append(all, r), append(texts, mapText(m, ""))
	}
	for i, old := range all {
		if got := listText(old.merged()); got != texts[i] {
			t.Errorf("step %d: %s, want %s", i, got, texts[i])
		}
	}
}

func TestRunsMayBeLeft(t *testing.T) {
	seed := uint64(3)
	r := runs[int]{}
	m := map[string]int{}
	for i := range 30 {
		r = append(r, randomList(&seed, 9, i, m)) // more of them, one over the other, than the store itself would have
	}
	all := r.merged()
	for n := range len(all) + 1 {
		var l list[int]
		for key, value := range r.over(nothing, "") {
			if len(l) == n {
				break
			}
			l = append(l, entry[int]{key, value})
		}
		if got, want := listText(l), listText(all[:n]); got != want {
			t.Errorf("left behind %d: %s, want %s", n, got, want)
		}
	}
}
