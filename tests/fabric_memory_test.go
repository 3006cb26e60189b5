package tests

import (
	"math/rand"
	"reflect"
	"testing"

	"loop.example/g00643/impl"
)

// laid is a Fabric whose lists of one kind lie in one piece of memory, one
// right behind the other, with more behind the last: who writes over a list's
// end writes over what another one has.
type laid struct {
	fabric  impl.Fabric
	numbers []int64
	texts   []string
	cursors []impl.Cursor
	rings   []impl.Ring
	txns    []impl.Txn
}

// layIn puts the list behind what lies there, with its room left open.
func layIn[T any](memory *[]T, list []T) []T {
	begin := len(*memory)
	*memory = append(*memory, list...)
	return (*memory)[begin:len(*memory)]
}

func layOut(f impl.Fabric) *laid {
	l := &laid{numbers: make([]int64, 0, 200), texts: make([]string, 0, 100), cursors: make([]impl.Cursor, 0, 40), rings: make([]impl.Ring, 0, 20), txns: make([]impl.Txn, 0, 30)}
	for _, r := range f.Rings {
		r.Recs, r.Cursors = layIn(&l.texts, r.Recs), layIn(&l.cursors, r.Cursors)
		l.rings = append(l.rings, r)
	}
	for _, x := range f.Txns {
		x.Rings, x.Left = layIn(&l.numbers, x.Rings), layIn(&l.numbers, x.Left)
		l.txns = append(l.txns, x)
	}
	l.fabric = impl.Fabric{Rings: l.rings, Epochs: layIn(&l.numbers, f.Epochs), Txns: l.txns, Now: f.Now}
	return l
}

// all is the memory with what lies behind the lists, in new memory.
func (l *laid) all() laid {
	return laid{
		fabric:  cloneFabric(l.fabric),
		numbers: append([]int64(nil), l.numbers[:cap(l.numbers)]...),
		texts:   append([]string(nil), l.texts[:cap(l.texts)]...),
		cursors: append([]impl.Cursor(nil), l.cursors[:cap(l.cursors)]...),
		rings:   append([]impl.Ring(nil), l.rings[:cap(l.rings)]...),
		txns:    append([]impl.Txn(nil), l.txns[:cap(l.txns)]...),
	}
}

func holdsMemory(t *testing.T, f impl.Fabric, right bool) {
	t.Helper()
	l := layOut(f)
	before := l.all()
	eachFabricCall(l.fabric, right, func(what string, got, want impl.FabricOut) {
		t.Helper()
		if fabricsShare(got.Fabric, l.fabric) {
			t.Fatalf("%s: the answer shares memory with what was handed in: %s", what, short(f))
		}
		if sharesWithin(got.Fabric) {
			t.Fatalf("%s: two lists of the answer share memory: %s", what, short(f))
		}
		sameFabric(t, what, got, want)
	})
	for n := int64(-1); n <= 5; n++ {
		impl.OpenOf(l.fabric, n)
		impl.Owed(l.fabric, n)
	}
	impl.FabricRight(l.fabric)
	if !reflect.DeepEqual(l.all(), before) {
		t.Errorf("what was handed in is changed: %s", short(f))
	}
}

// Chapter 1: what is handed in is not changed, and an answer shares no memory
// with it, nor two of its lists with each other.
func TestFabricMemory(t *testing.T) {
	for i, f := range rightFabrics() {
		if i%3 == 0 || len(f.Txns) > 4 {
			holdsMemory(t, f, true)
		}
	}
	for _, w := range fabricsOfWrongTxns() {
		holdsMemory(t, w.fabric, false)
	}
}

// One list stands at several places of what is handed in.
func TestFabricMemoryOfOneList(t *testing.T) {
	f := emptyFabric(3, 8)
	one, recs := []int64{0, 1, 2}, []string{recText(dataRec(1, "a")), recText(dataRec(2, "b"))}
	for i := range f.Rings {
		f.Rings[i].Recs = recs
	}
	f.Epochs = append(one, 3)
	f.Txns = []impl.Txn{
		{Producer: 2, Epoch: 1, State: impl.TxCommit, Until: 4, Rings: one, Left: one},
		{Producer: 3, Epoch: 1, State: impl.TxAbort, Until: 4, Rings: one, Left: one[:2]},
		{Producer: 3, Epoch: 2, State: impl.TxOpen, Until: 4, Rings: one},
		{Producer: 4, Epoch: 3, State: impl.TxOpen, Until: 4, Rings: one[:2:3], Left: one[:0]},
	}
	before := cloneFabric(f)
	eachFabricCall(f, true, func(what string, got, want impl.FabricOut) {
		sameFabric(t, what, got, want)
		same(t, what+": shares memory with what was handed in", fabricsShare(got.Fabric, f), false)
		same(t, what+": shares memory within", sharesWithin(got.Fabric), false)
	})
	sameFabric(t, "what was handed in", impl.FabricOut{Fabric: f}, impl.FabricOut{Fabric: before})
}

// Chapter 1: nothing is kept: the same again answers the same, whatever was
// asked between.
func TestFabricKeepsNothing(t *testing.T) {
	dice := rand.New(rand.NewSource(7))
	fabrics := rightFabrics()
	for range 500 {
		f, other := fabrics[dice.Intn(len(fabrics))], fabrics[dice.Intn(len(fabrics))]
		producer := 1 + dice.Int63n(4)
		first := impl.Init(f, producer)
		impl.Init(other, producer)
		impl.Tick(other, 100)
		impl.Help(other)
		sameFabric(t, "Init again", impl.Init(f, producer), first)
	}
}
