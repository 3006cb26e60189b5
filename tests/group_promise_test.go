package tests

import (
	"fmt"
	"math/rand"
	"slices"
	"testing"

	"loop.example/g00643/impl"
)

// askTillNothing polls again and again, and holds that each time there come as
// many as may, till there are no more.
func askTillNothing(t *testing.T, f impl.Fabric, group, ring, most int64, loose bool) ([]string, impl.Fabric) {
	t.Helper()
	var texts []string
	for range 20 {
		out := impl.Poll(f, group, ring, most, loose)
		if out.Code != impl.OK {
			t.Fatalf("Poll tells %d: %s", out.Code, short(f))
		}
		texts = append(texts, out.Texts...)
		f = out.Fabric
		if int64(len(out.Texts)) < most {
			samePoll(t, "asked once more", impl.Poll(f, group, ring, most, loose), impl.PollOut{Fabric: f})
			return texts, f
		}
	}
	t.Fatalf("more is told than a ring has: %q", texts)
	return nil, f
}

// Promise 8: who hears gets just what counts, from where it was, up to what is
// not decided yet; asked at once again it gets what is left, however many it
// asks for at once.
func TestAskedAgainItGetsWhatIsLeft(t *testing.T) {
	for _, f := range append(heardFabrics(), busyFabric()) {
		for ring, r := range f.Rings {
			for _, c := range r.Cursors {
				for most := int64(1); most <= 20; most++ {
					holdsAll(t, f, c, int64(ring), most, false)
					holdsAll(t, f, c, int64(ring), most, true)
				}
			}
		}
	}
}

func holdsAll(t *testing.T, f impl.Fabric, c impl.Cursor, ring, most int64, loose bool) {
	t.Helper()
	var want []string
	for _, s := range wantHeard(f, ring, c.At, loose) {
		want = append(want, s.rec.Data)
	}
	texts, after := askTillNothing(t, f, c.Group, ring, most, loose)
	if !slices.Equal(texts, want) {
		t.Fatalf("group %d, most %d, loose %v: got %q, want %q: %s", c.Group, most, loose, texts, want, short(f))
	}
	till := impl.Stable(f, ring)
	if loose {
		till = impl.RingEnd(f.Rings[ring])
	}
	own, _ := cursorOf(after.Rings[ring], c.Group)
	same(t, "where it is then", own.At, max(c.At, till))
}

// Promise 8: each of those who follow hears for itself.
func TestEachHearsForItself(t *testing.T) {
	f := heardFabric(8, 0, "cbcc", impl.Cursor{Group: 1, At: 0}, impl.Cursor{Group: 2, At: 0}, impl.Cursor{Group: 3, At: 2})
	first := impl.Poll(f, 1, 0, 2, false)
	second := impl.Poll(first.Fabric, 2, 0, 20, false)
	third := impl.Poll(second.Fabric, 3, 0, 20, true)
	again := impl.Poll(third.Fabric, 1, 0, 20, false)
	got := fmt.Sprint(first.Texts, second.Texts, third.Texts, again.Texts)
	same(t, "heard", got, "[0 2] [0 2 3] [2 3] [3]")
	same(t, "all have passed all", len(again.Fabric.Rings[0].Recs), 0)
}

// ear is what one group has heard of one ring since it follows.
type ear struct {
	group, ring int64
	loose       bool
	start       int64
	heard       []string
}

// listener walks as a walker does, and has groups come, hear and go between. It
// remembers all that was ever put, ring by ring, also what has gone since.
type listener struct {
	walker
	base [4]int64
	put  [4][]impl.Rec
	ears []*ear
}

func newListener(t *testing.T, f impl.Fabric, seed int64, went map[string]int) *listener {
	l := &listener{walker: walker{t: t, dice: rand.New(rand.NewSource(seed)), now: cloneFabric(f), went: went}}
	for ring, r := range f.Rings {
		// Who follows already may have heard anything: this walk has its own.
		for _, c := range r.Cursors {
			l.now = impl.Forget(l.now, c.Group, int64(ring)).Fabric
		}
		l.base[ring] = l.now.Rings[ring].First
	}
	l.remember()
	return l
}

// remember comes ahead of each step by which something may go.
func (l *listener) remember() {
	for ring, r := range l.now.Rings {
		for at := l.base[ring] + int64(len(l.put[ring])); at < endOf(r); at++ {
			l.put[ring] = append(l.put[ring], impl.RecRead(r.Recs[at-r.First]).Rec)
		}
	}
}

func (l *listener) step() {
	if l.dice.Intn(3) > 0 {
		l.tell()
		l.remember()
		return
	}
	switch n := l.dice.Intn(12); {
	case n < 4:
		l.come()
	case n < 5 && len(l.ears) > 0:
		l.leave(l.dice.Intn(len(l.ears)))
	case len(l.ears) > 0:
		l.hear(l.ears[l.dice.Intn(len(l.ears))], 1+l.dice.Int63n(4))
	}
}

func (l *listener) come() {
	f, group, ring := l.now, l.dice.Int63n(11), l.dice.Int63n(int64(len(l.now.Rings))+1)
	got := impl.Subscribe(f, group, ring)
	l.take("Subscribe", got, wantSubscribe(f, true, group, ring))
	if got.Code == impl.OK {
		l.ears = append(l.ears, &ear{group: group, ring: ring, loose: l.dice.Intn(4) == 0, start: f.Rings[ring].First})
	}
}

func (l *listener) leave(i int) {
	f, e := l.now, l.ears[i]
	l.take("Forget", impl.Forget(f, e.group, e.ring), wantForget(f, true, e.group, e.ring))
	l.ears = slices.Delete(l.ears, i, i+1)
}

func (l *listener) hear(e *ear, most int64) {
	f := l.now
	got := impl.Poll(f, e.group, e.ring, most, e.loose)
	samePoll(l.t, "Poll", got, wantPoll(f, true, e.group, e.ring, most, e.loose))
	l.take("Poll", impl.FabricOut{Fabric: got.Fabric, Code: got.Code}, impl.FabricOut{Fabric: got.Fabric})
	e.heard = append(e.heard, got.Texts...)
	if n := len(got.Texts); n > 0 {
		l.went[fmt.Sprint("heard, loose ", e.loose)] += n
	}
}

// sentTo is what was sent to the ear's ring since it follows, of those that
// fit, in the order in which it was put.
func (l *listener) sentTo(e *ear, fits func(state int64) bool) []string {
	var out []string
	for i, rec := range l.put[e.ring] {
		if rec.Kind == impl.RcData && l.base[e.ring]+int64(i) >= e.start && fits(l.now.Txns[rec.Txn-1].State) {
			out = append(out, rec.Data)
		}
	}
	return out
}

// holdsPrefix: what was heard so far is the first of what was sent and counts
// by now, so nothing is told that can still be taken back, or out of order.
func (l *listener) holdsPrefix(e *ear) {
	l.t.Helper()
	all := l.sentTo(e, func(state int64) bool { return e.loose || state == impl.TxCommit })
	if len(e.heard) > len(all) || !slices.Equal(e.heard, all[:len(e.heard)]) {
		l.t.Fatalf("group %d of ring %d heard %q of %q", e.group, e.ring, e.heard, all)
	}
}

// finish decides all that is open, says it, and lets all hear what is left.
func (l *listener) finish() {
	l.t.Helper()
	for producer := int64(1); producer <= 4; producer++ {
		if impl.OpenOf(l.now, producer) > 0 {
			l.now = impl.End(l.now, producer, l.now.Epochs[producer-1], l.dice.Intn(2) == 0).Fabric
		}
	}
	l.now = saidAll(l.t, l.now)
	l.remember()
	for _, e := range l.ears {
		texts, after := askTillNothing(l.t, l.now, e.group, e.ring, 1+l.dice.Int63n(20), e.loose)
		e.heard, l.now = append(e.heard, texts...), after
		l.holdsPrefix(e)
		want := l.sentTo(e, func(state int64) bool { return e.loose || state == impl.TxCommit })
		same(l.t, "how many were heard in the end", len(e.heard), len(want))
		l.went["ears"]++
	}
}

// Promise 9: those who hear get, ring by ring, what was sent in transactions
// that were committed, in order, nothing twice, nothing that was taken back.
// (Who hears loosely gets all that was sent, likewise.)
func TestHearersGetWhatWasCommitted(t *testing.T) {
	went := map[string]int{}
	for seed := range int64(25) {
		for _, f := range startsOfWalks() {
			l := newListener(t, f, seed, went)
			for range 200 {
				l.step()
				for _, e := range l.ears {
					l.holdsPrefix(e)
				}
			}
			l.finish()
		}
		if t.Failed() {
			t.Fatalf("seed %d", seed)
		}
	}
	for _, what := range []string{"Subscribe 0", "Subscribe 1", "Subscribe 7", "Subscribe 8", "Subscribe 9", "Forget 0", "Poll 0", "heard, loose false", "heard, loose true", "ears"} {
		if went[what] < 100 {
			t.Errorf("the walks came by %s only %d times", what, went[what])
		}
	}
}

// Promise 9, by hand: two who tell on two rings, one of whom comes back.
func TestHeardByHand(t *testing.T) {
	f := impl.FabricNew(2, 8).Fabric
	for ring := range int64(2) {
		f = impl.Subscribe(f, 1, ring).Fabric
	}
	f = impl.Begin(impl.Init(f, 1).Fabric, 1, 1, 20).Fabric
	f = impl.Begin(impl.Init(f, 2).Fabric, 2, 1, 20).Fabric
	f = impl.Send(f, 2, 1, 0, "a").Fabric
	f = impl.Send(f, 1, 1, 0, "x").Fabric
	f = impl.Send(f, 2, 1, 1, "b").Fabric
	f = impl.Send(f, 2, 1, 0, "c").Fabric
	hears := func(what string, ring int64, want string) {
		t.Helper()
		out := impl.Poll(f, 1, ring, 20, false)
		same(t, what, fmt.Sprint(out.Texts), want)
		f = out.Fabric
	}
	hears("nothing is decided", 0, "[]")
	hears("nothing is decided", 1, "[]")
	f = impl.End(f, 2, 1, true).Fabric
	hears("up to what is not decided yet", 0, "[a]")
	hears("nothing is undecided there", 1, "[b]")
	hears("nothing twice", 0, "[]")
	hears("nothing twice", 1, "[]")
	f = impl.Init(f, 1).Fabric
	hears("what was taken back holds up no more", 0, "[c]")
	f = saidAll(t, f)
	hears("how it ended is not told", 0, "[]")
	hears("how it ended is not told", 1, "[]")
	same(t, "all has gone", len(f.Rings[0].Recs)+len(f.Rings[1].Recs), 0)
}

// Promise 9: who does not end in time is ended, and holds up nobody behind it.
func TestHeardWhenTimeIsOver(t *testing.T) {
	f := impl.Subscribe(impl.FabricNew(1, 8).Fabric, 1, 0).Fabric
	f = impl.Begin(impl.Init(f, 1).Fabric, 1, 1, 5).Fabric
	f = impl.Begin(impl.Init(f, 2).Fabric, 2, 1, 20).Fabric
	f = impl.Send(f, 1, 1, 0, "slow").Fabric
	f = impl.Send(f, 2, 1, 0, "quick").Fabric
	f = impl.End(f, 2, 1, true).Fabric
	f = impl.Tick(f, 4).Fabric
	same(t, "held up", len(impl.Poll(f, 1, 0, 20, false).Texts), 0)
	same(t, "held up, not loosely", fmt.Sprint(impl.Poll(f, 1, 0, 20, true).Texts), "[slow quick]")
	f = impl.Tick(f, 1).Fabric
	same(t, "time is over", fmt.Sprint(impl.Poll(f, 1, 0, 20, false).Texts), "[quick]")
}

// Room comes back as those who hear pass what was told.
func TestRoomComesBackByHearing(t *testing.T) {
	f := impl.Subscribe(impl.FabricNew(1, 4).Fabric, 1, 0).Fabric
	f = impl.Init(f, 1).Fabric
	var heard []string
	var want []string
	for i := range impl.MaxTxns {
		f = impl.Begin(f, 1, 1, 9).Fabric
		for sent := range 3 {
			data := fmt.Sprint(i, ".", sent)
			out := impl.Send(f, 1, 1, 0, data)
			same(t, "there is room", out.Code, impl.OK)
			f = out.Fabric
			if i%3 != 1 {
				want = append(want, data)
			}
		}
		fabricRefused(t, "there is no more room", impl.Send(f, 1, 1, 0, "x"), impl.ErrFull)
		f = saidAll(t, impl.End(f, 1, 1, i%3 != 1).Fabric)
		out := impl.Poll(f, 1, 0, 20, false)
		heard, f = append(heard, out.Texts...), out.Fabric
		same(t, "room", impl.RingRoom(f.Rings[0]), 4)
	}
	same(t, "heard", fmt.Sprint(heard), fmt.Sprint(want))
	same(t, "the last place", impl.RingEnd(f.Rings[0]), 4*impl.MaxTxns)
}
