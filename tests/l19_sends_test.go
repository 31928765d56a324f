package tests

import (
	"math/rand"
	"testing"

	"loop.example/g00068/impl"
)

func sameSent(t *testing.T, what string, s impl.Station, want string) {
	t.Helper()
	what = "StationSend, " + what
	watchedStation(t, what, s, func(s impl.Station) {
		if got := impl.StationSend(s); got != want {
			t.Errorf("%s: got %q of %+v, want %q", what, got, s, want)
		}
	})
}

// plainSent is made of bytes alone.
func plainSent(s impl.Station) string {
	text := ""
	for _, n := range s.Wait {
		body := decimal(n.Value)
		text += rawFrame(byte(s.Unit), 3, int(n.Seq), byte(len(body)), body)
	}
	return text
}

func TestStationSendByHand(t *testing.T) {
	sameSent(t, "a fresh one", freshStation(7, 0), "")
	sameSent(t, "an empty list", waiting(outpost(), []impl.Note{}), "")
	sameSent(t, "one", impl.Station{Unit: 1, Seen: true, Last: 4, Next: 2, Wait: notes(1, 4)}, textOf(frame(1, 3, 1, "4")))
	sameSent(t, "several", outpost(), textOf(frame(7, 3, 3, "55"), frame(7, 3, 4, "-8"), frame(7, 3, 8, "-40")))
	values := impl.Station{Unit: 250, Seen: true, Next: impl.MaxSeq, Wait: notes(1, 0, 126, -1, 256, impl.MaxFlow, impl.MaxSeq-1, -impl.MaxFlow)}
	sameSent(t, "all Values", values, textOf(
		frame(250, 3, 1, "0"), frame(250, 3, 126, "-1"), frame(250, 3, 256, "1000000"), frame(250, 3, 59999, "-1000000"),
	))
	sameSent(t, "the marks", impl.Station{Unit: 126, Seen: true, Next: 127, Wait: notes(126, 126)}, textOf(frame(126, 3, 126, "126")))
}

func TestStationSendBytes(t *testing.T) {
	for what, s := range rightStations() {
		sameSent(t, what, s, plainSent(s))
	}
	if got := len(impl.StationSend(fullStation(impl.MaxSeq))); got != impl.MaxWait*13 {
		t.Errorf("StationSend of a full one: %d bytes", got)
	}
}

func TestStationSendWrong(t *testing.T) {
	for what, s := range wrongStations() {
		sameSent(t, what, s, "")
	}
}

// TestStationSendComesBack: FramesOf tells all notes in order, and nothing is lost.
func TestStationSendComesBack(t *testing.T) {
	random := rand.New(rand.NewSource(191))
	for range 1000 {
		s := anyStation(random)
		text := plainSent(s)
		sameSent(t, "any", s, text)
		want := impl.FramesOut{}
		for _, n := range s.Wait {
			want.Frames = append(want.Frames, frame(s.Unit, 3, n.Seq, decimal(n.Value)))
		}
		sameStream(t, "what a station sends", text, want)
		if t.Failed() {
			t.Fatalf("of %+v", s)
		}
	}
}
