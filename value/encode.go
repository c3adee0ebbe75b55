package value

import (
	"math"

	"workflow/api"
	"workflow/wire"
)

// Encode returns the bytes of b, followed by the encoding of v if it is well formed.
func Encode(b []byte, v api.Value) []byte {
	all := append(make([]byte, 0, len(b)), b...)
	if !wellFormed(v) {
		return all
	}
	return appendValue(all, v)
}

// appendValue appends the encoding of a well-formed value to a slice that the caller owns.
func appendValue(b []byte, v api.Value) []byte {
	b = appendInt(b, v.Kind)
	switch v.Kind {
	case api.VBool, api.VInt, api.VFuture:
		return appendInt(b, v.Int)
	case api.VText:
		return appendText(b, v.Text)
	case api.VList, api.VMap:
		return appendItems(b, v)
	}
	return b
}

func appendItems(b []byte, v api.Value) []byte {
	b = appendInt(b, len(v.Items))
	for i, item := range v.Items {
		if v.Kind == api.VMap {
			b = appendText(b, v.Keys[i])
		}
		b = appendValue(b, item)
	}
	return b
}

// appendInt and appendText let wire encode into new slices, because it copies the slice that it is given each time.
func appendInt(b []byte, n int) []byte     { return append(b, wire.PutInt(nil, n)...) }
func appendText(b []byte, s string) []byte { return append(b, wire.PutText(nil, s)...) }

// Decode reads a payload. The error, if there is one, is that of r.
func Decode(r *wire.Reader) api.Value {
	d := decoder{r: r}
	v := d.value(1)
	if r.Err() != api.OK {
		return Null()
	}
	return v
}

// decoder reads one payload. After an error its reader reads nothing and returns zero values, so that most steps need
// not ask for the error.
type decoder struct {
	r     *wire.Reader
	begun int // values that have begun
}

// require fails, unless the input is right so far.
func (d *decoder) require(right bool) {
	if !right {
		d.r.Fail(api.ErrForm)
	}
}

func (d *decoder) int() int { return d.r.Int(math.MinInt, math.MaxInt) }

// text reads a string. One that is too long is read nevertheless, because its end may be missing, which is another error.
func (d *decoder) text() string {
	s := d.r.Text(math.MaxInt)
	d.require(len(s) <= api.MaxText)
	return s
}

// value reads a value at a depth.
func (d *decoder) value(depth int) api.Value {
	d.require(d.begun < api.MaxNodes && depth <= api.MaxDepth)
	d.begun++
	kind := d.int()
	d.require(kind >= api.VNull && kind <= api.VMap)
	v := api.Value{Kind: kind}
	switch kind {
	case api.VBool:
		v.Int = d.int()
		d.require(v.Int == 0 || v.Int == 1)
	case api.VInt:
		v.Int = d.int()
	case api.VText:
		v.Text = d.text()
	case api.VList, api.VMap:
		d.items(&v, depth+1)
	}
	return v
}

// items reads the items of a list or map, at a depth, and the keys of a map.
func (d *decoder) items(v *api.Value, depth int) {
	count := d.int()
	d.require(count >= 0 && count <= api.MaxNodes)
	for i := 0; i < count && d.r.Err() == api.OK; i++ {
		if v.Kind == api.VMap {
			key := d.text()
			d.require(i == 0 || key > v.Keys[i-1])
			v.Keys = append(v.Keys, key)
		}
		v.Items = append(v.Items, d.value(depth))
	}
}
