package save

import (
	"bytes"
	"slices"

	"tidemark/api"
	"tidemark/wire"
)

// slots is how many a disk has.
const slots = 2

// pieceSize is how many bytes of a base one frame has.
const pieceSize = 1 << 14

// Kinds of frames.
const (
	_ = iota
	slotHead
	dataPiece
	oneRow
	slotEnd
	tapeHead
	oneHard
	oneCut
)

// frame is one of a payload of the program's own: none of these is too long.
func frame(p []byte) []byte {
	b, _ := wire.Frame(p)
	return b
}

func putHard(h api.Hard) []byte { return wire.Numbers(nil, oneHard, h.Term, h.Vote) }

func putCut(i int) []byte { return wire.Numbers(nil, oneCut, i) }

func putTapeHead(gen int) []byte { return wire.Numbers(nil, tapeHead, gen) }

func putEntry(e api.Entry) []byte {
	return wire.Text(wire.Numbers(nil, oneRow, e.Index, e.Term), string(e.Data))
}

func putPiece(b []byte) []byte { return wire.Text(wire.Number(nil, dataPiece), string(b)) }

// putSlotHead is all but the data and the rows, and how many there are of these.
func (k kept) putSlotHead(gen int) []byte {
	b := wire.Numbers(nil, slotHead, gen, k.hard.Term, k.hard.Vote, k.base.Index, k.base.Term, len(k.base.Data), len(k.rows))
	for _, l := range [][]int{k.base.Roster.Voters, k.base.Roster.Learners} {
		b = wire.Numbers(wire.Number(b, len(l)), l...)
	}
	return b
}

// inSlot is a slot's bytes.
func (k kept) inSlot(gen int) []byte {
	b := frame(k.putSlotHead(gen))
	for piece := range slices.Chunk(k.base.Data, pieceSize) {
		b = append(b, frame(putPiece(piece))...)
	}
	for _, e := range k.rows {
		b = append(b, frame(putEntry(e))...)
	}
	return append(b, frame(wire.Number(nil, slotEnd))...)
}

// readSlot is what a slot's bytes tell, and of which generation it is; 0, if they tell nothing. Whatever was read of them, only bytes that would be laid just so tell anything.
func readSlot(b []byte) (kept, int) {
	l, _ := wire.All(b)
	if len(l) == 0 {
		return kept{}, 0
	}
	k, gen := readSlotHead(l[0])
	for _, p := range l[1:] {
		k.fill(p)
	}
	if !mayBase(k.base) || !bytes.Equal(k.inSlot(gen), b) {
		return kept{}, 0
	}
	return k, gen
}

// readSlotHead leaves out what readSlot finds by itself: which kind it is, how many bytes of data there are, and how many rows.
func readSlotHead(p []byte) (kept, int) {
	var k kept
	r := wire.Read(p)
	r.Number()
	gen := r.Within(1, api.MaxIndex)
	k.hard = readHard(r)
	k.base.Index, k.base.Term = r.Within(0, api.MaxIndex), r.Within(0, api.MaxIndex)
	r.Number()
	r.Number()
	k.base.Roster.Voters, k.base.Roster.Learners = readNodes(r), readNodes(r)
	return k, gen
}

func readHard(r *wire.Reader) api.Hard {
	return api.Hard{Term: r.Within(0, api.MaxIndex), Vote: r.Within(0, api.MaxNodes)}
}

func readNodes(r *wire.Reader) []int {
	var l []int
	for range r.Within(0, api.MaxNodes) {
		l = append(l, r.Within(0, api.MaxNodes-1))
	}
	return l
}

func readEntry(r *wire.Reader) api.Entry {
	return api.Entry{Index: r.Within(1, api.MaxIndex), Term: r.Within(1, api.MaxIndex), Data: []byte(r.Text(api.MaxData))}
}

// fill does what a slot's frame behind the first one tells.
func (k *kept) fill(p []byte) {
	r := wire.Read(p)
	switch r.Number() {
	case dataPiece:
		k.base.Data = append(k.base.Data, r.Text(pieceSize)...)
	case oneRow:
		k.doRow(r)
	}
}

// do does a record of the tape; false, if it is none that may be there.
func (k *kept) do(p []byte) bool {
	r := wire.Read(p)
	switch r.Number() {
	case oneHard:
		return k.doHard(r)
	case oneRow:
		return k.doRow(r)
	case oneCut:
		return k.doCut(r)
	}
	return false
}

func (k *kept) doHard(r *wire.Reader) bool {
	h := readHard(r)
	if r.End() != api.OK {
		return false
	}
	k.hard = h
	return true
}

func (k *kept) doRow(r *wire.Reader) bool {
	e := readEntry(r)
	if r.End() != api.OK || !k.goOn([]api.Entry{e}) {
		return false
	}
	k.rows = append(k.rows, e)
	return true
}

func (k *kept) doCut(r *wire.Reader) bool {
	at, ok := k.find(r.Number())
	if r.End() != api.OK || !ok {
		return false
	}
	k.cut(at)
	return true
}
