package disk

import "bytes"

// slots is how many there are.
const slots = 2

// store is what the slots and the tape have. Its bytes are never changed, a tape grows behind its end alone: so several stores may share them.
type store struct {
	slots [slots][]byte
	tape  []byte
}

func (s store) size() int {
	n := len(s.tape)
	for _, b := range s.slots {
		n += len(b)
	}
	return n
}

// shut is the same without room behind the tape: what is put behind this one does not come to lie where the other one goes on.
func (s store) shut() store {
	n := len(s.tape)
	s.tape = s.tape[:n:n]
	return s
}

// clone is the same in memory of its own.
func (s store) clone() store {
	s.tape = bytes.Clone(s.tape)
	for i, b := range s.slots {
		s.slots[i] = bytes.Clone(b)
	}
	return s
}

// Kinds of acts.
const (
	nothing = iota
	inSlot
	behindTape
	newTape
)

// act is what is done to a store.
type act struct {
	kind int
	slot int
	b    []byte
}

// do is a store behind an act.
func (a act) do(s store) store {
	switch a.kind {
	case inSlot:
		s.slots[a.slot] = a.b
	case behindTape:
		s.tape = append(s.tape, a.b...)
	case newTape:
		s.tape = nil
	}
	return s
}

// torn is what comes of an act in which the power goes: its first bytes alone.
func (a act) torn(tear int) act {
	if tear < 1 || a.kind == newTape {
		return act{kind: nothing}
	}
	n := min(tear, len(a.b))
	a.b = a.b[:n:n]
	return a
}
