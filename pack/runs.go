package pack

import "tidemark/api"

const (
	// signs is how many there are: two for runs of noughts, one for each other byte, one for the end.
	signs   = 258
	endSign = signs - 1
	// mostRun is how many noughts one behind the other are read.
	mostRun = 8192
)

// Runs is bytes as signs: how many times 0 comes in a row as digits one and two, the lowest first; each other byte one more.
func Runs(b []byte) []int {
	var l []int
	n := 0
	for _, x := range b {
		if x == 0 {
			n++
			continue
		}
		l = append(putRun(l, n), int(x)+1)
		n = 0
	}
	return append(putRun(l, n), endSign)
}

func putRun(l []int, n int) []int {
	for ; n > 0; n = (n - 1) / 2 {
		l = append(l, 1-n%2)
	}
	return l
}

// runReader is what signs were so far, and the run that goes on.
type runReader struct {
	out  []byte
	most int
	run  int
	step int // what the next digit of the run counts
}

// Unruns is the bytes that signs are, at most so many.
func Unruns(l []int, most int) ([]byte, api.Errno) {
	if len(l) == 0 {
		return nil, api.ErrPack
	}
	r := runReader{most: max(most, 0), step: 1}
	for i, s := range l {
		if s < 0 || s > endSign || (s == endSign) != (i == len(l)-1) {
			return nil, api.ErrPack
		}
		if e := r.take(s); e != api.OK {
			return nil, e
		}
	}
	return r.out, api.OK
}

func (r *runReader) take(s int) api.Errno {
	if s < 2 {
		r.run += (s + 1) * r.step
		r.step *= 2
		return atMost(r.run, mostRun)
	}
	if e := r.endRun(); e != api.OK || s == endSign {
		return e
	}
	r.out = append(r.out, byte(s-1))
	return atMost(len(r.out), r.most)
}

// endRun puts the noughts of the run behind the bytes so far.
func (r *runReader) endRun() api.Errno {
	if e := atMost(len(r.out)+r.run, r.most); e != api.OK {
		return e
	}
	r.out = append(r.out, make([]byte, r.run)...)
	r.run, r.step = 0, 1
	return api.OK
}

// atMost is the error of so many bytes, or noughts, where no more than most may be.
func atMost(n, most int) api.Errno {
	if n > most {
		return api.ErrLong
	}
	return api.OK
}
