package image

import (
	"bytes"

	"theodolite/api"
	"theodolite/lines"
	"theodolite/scopes"
	"theodolite/unwind"
)

// section is one of those of which an image's bytes are, behind its start.
type section struct {
	put func() []byte       // what it says of the image, which is right: the layers below tell no error
	get func(b []byte) bool // turns the image to what bytes say; false, if they are none of this section
}

// sections are those of an image, in the order of its bytes. It is the image itself that they look at, and turn.
func sections(m *api.Image) []section {
	return []section{codeOf(m), rowsOf(m), unwindsOf(m), tableOf(m)}
}

func codeOf(m *api.Image) section {
	return section{
		put: func() []byte { return m.Code },
		get: func(b []byte) bool {
			m.Code = bytes.Clone(b)
			return true
		},
	}
}

func rowsOf(m *api.Image) section {
	return section{
		put: func() []byte {
			b, _ := lines.Write(m.Rows)
			return b
		},
		get: func(b []byte) bool {
			l, e := lines.Read(b)
			m.Rows = l
			return e == api.OK
		},
	}
}

func unwindsOf(m *api.Image) section {
	return section{
		put: func() []byte {
			b, _ := unwind.Put(nil, m.Unwinds)
			return b
		},
		get: func(b []byte) bool {
			l, next, e := unwind.Get(b, 0)
			m.Unwinds = l
			return e == api.OK && next == len(b)
		},
	}
}

// tableOf is the functions and the points, which are one table.
func tableOf(m *api.Image) section {
	return section{
		put: func() []byte {
			b, _ := scopes.Put(nil, m.Places, m.Points)
			return b
		},
		get: func(b []byte) bool {
			l, points, next, e := scopes.Get(b, 0)
			m.Places, m.Points = l, points
			return e == api.OK && next == len(b)
		},
	}
}
