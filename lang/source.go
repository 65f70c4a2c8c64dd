package lang

import "tidemark/api"

// Source is tokens that are taken one by one.
type Source struct {
	tokens []api.Token // the last one is the end
	at     int
}

// Read is a text's tokens to be taken.
func Read(s string) (*Source, int, api.Errno) {
	l, at, e := Tokens(s)
	if e != api.OK {
		return nil, at, e
	}
	return &Source{tokens: append(l, api.Token{At: len(s)})}, 0, api.OK
}

// made tells one of Read from a plain Source{}.
func (s *Source) made() bool { return s != nil && len(s.tokens) > 0 }

// Peek is the next token; Take takes it.
func (s *Source) Peek() api.Token {
	if !s.made() {
		return api.Token{}
	}
	return s.tokens[s.at]
}

func (s *Source) Take() api.Token {
	t := s.Peek()
	if t.Kind != api.TEnd {
		s.at++
	}
	return t
}

// Is takes the next token, if it is that.
func (s *Source) Is(kind int, text string) bool {
	t := s.Peek()
	if t.Kind == api.TEnd || t.Kind != kind || t.Text != text {
		return false
	}
	s.Take()
	return true
}
