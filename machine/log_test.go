package machine_test

import (
	"fmt"
	"testing"

	"cairn/api"
)

func logText(l []api.Log) string {
	text := ""
	for _, x := range l {
		text += fmt.Sprintf("%x %x %x\n", x.Address, x.Topics, x.Data)
	}
	return text
}

func TestLogs(t *testing.T) { // 15.2
	topics := []api.Word{{1, 2, 3, 4}, most(), w(7), {0, 0, 0, 1 << 63}}
	for n := range 5 {
		for _, room := range [][2]uint64{{0, 0}, {0, 1}, {3, 40}, {90, 10}, {200, 5}} {
			at, long := room[0], room[1]
			x := trial{ahead: fill(3), op: byte(0xa0 + n), words: append([]api.Word{w(at), w(long)}, topics[:n]...)}
			m, s, v := x.do(t)
			wantEvent(t, "a log", v, api.Event{Kind: api.EventPause})
			want := api.Log{Address: self, Data: append(input(96), make([]byte, 200)...)[at : at+long]}
			for _, topic := range topics[:n] {
				want.Topics = append(want.Topics, api.Hash(push(topic)[1:]))
			}
			wantText(t, fmt.Sprintf("LOG%d", n), logText(s.Logs()), logText([]api.Log{want}))
			wantStack(t, "a log", m)
			wantTrue(t, "nothing else", s.Refund() == 0 && !s.Warm(self) && s.Balance(self) == w(1000))
		}
		x := trial{op: byte(0xa0 + n), words: append([]api.Word{w(0), w(33)}, topics[:n]...)}
		wantCost(t, fmt.Sprintf("LOG%d", n), x, 375, memoryCost(2), uint64(375*n+8*33))
	}
}

func TestLogsInOrder(t *testing.T) {
	s := newState()
	s.Tell(api.Log{Address: bare, Data: []byte("ahead")})
	m := start(t, s, newEnv(), newFrame(fill(1), with(0xa1, w(0), w(2), w(5)), with(0xa0, w(2), w(1)), with(0x53, w(0), w(99)), []byte{0x0c}))
	m.Run(1000)
	topic := api.Hash{31: 5}
	wantText(t, "logs", logText(s.Logs()), logText([]api.Log{
		{Address: bare, Data: []byte("ahead")}, {Address: self, Topics: []api.Hash{topic}, Data: []byte{1, 2}}, {Address: self, Data: []byte{3}},
	}))
}
