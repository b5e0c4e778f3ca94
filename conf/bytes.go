package conf

import (
	"cohort/api"
	"cohort/num"
)

// fields is what is done with each kind of place of a configuration, and with
// how many there are of a list.
type fields struct {
	text   func(place *string)
	number func(size int, place *int64, above int64)
	span   func(size int, place *uint64)
	small  func(place *uint8)
	truth  func(place *bool)
	many   func(n int) int
}

// each hands on the places of a configuration, in the order of their bytes: it
// is the one list of its fields. A list is made as long as many tells.
func each(c *api.Config, f fields) {
	c.Pools = long(c.Pools, f.many(len(c.Pools)))
	for i := range c.Pools {
		p := &c.Pools[i]
		f.text(&p.Name)
		f.truth(&p.Spot)
		f.number(1, &p.Weight, 0)
		f.number(4, &p.Priority, 0)
	}
	f.small(&c.Strategy)
	f.number(1, &c.Spread, 0)
	f.truth(&c.Fallback)
	for _, place := range [...]*int64{&c.Min, &c.Max, &c.Base} {
		f.number(4, place, 0)
	}
	f.number(1, &c.Percent, 0)
	f.number(4, &c.Surge, 0)
	f.number(4, &c.Warm, 0)
	for _, place := range [...]*uint64{&c.Drain, &c.HookIn, &c.HookOut, &c.Black, &c.Deadline, &c.Cool} {
		f.span(4, place)
	}
	f.truth(&c.Replace)
	f.number(4, &c.Target, 0)
	c.Bands = long(c.Bands, f.many(len(c.Bands)))
	for i := range c.Bands {
		f.number(4, &c.Bands[i].From, api.MaxMetric)
		f.number(4, &c.Bands[i].Add, api.MaxCap)
	}
	c.Plans = long(c.Plans, f.many(len(c.Plans)))
	for i := range c.Plans {
		f.span(8, &c.Plans[i].At)
		f.span(4, &c.Plans[i].Each)
		f.number(4, &c.Plans[i].Desired, 0)
	}
}

// long tells a list of that length: itself, if it has it.
func long[T any](l []T, many int) []T {
	if len(l) == many {
		return l
	}
	return make([]T, many)
}

func truth(is bool) uint64 {
	if is {
		return 1
	}
	return 0
}

// Bytes tells a configuration's bytes; Check's error, if it may not be.
func Bytes(c api.Config) ([]byte, api.Errno) {
	if e := Check(c); e != api.OK {
		return nil, e
	}
	var b []byte
	lay := func(n uint64, size int) {
		x, _ := num.Put(n, size)
		b = append(b, x...)
	}
	each(&c, fields{
		text: func(place *string) {
			lay(uint64(len(*place)), 1)
			b = append(b, *place...)
		},
		number: func(size int, place *int64, above int64) { lay(uint64(*place+above), size) },
		span:   func(size int, place *uint64) { lay(*place, size) },
		small:  func(place *uint8) { lay(uint64(*place), 1) },
		truth:  func(place *bool) { lay(truth(*place), 1) },
		many: func(n int) int {
			lay(uint64(n), 1)
			return n
		},
	})
	return b, api.OK
}

// reader takes bytes from the left, up to the first error.
type reader struct {
	b  []byte
	at int
	e  api.Errno
}

// number takes a number of so many bytes; 0 behind an error.
func (r *reader) number(size int) uint64 {
	if r.e != api.OK {
		return 0
	}
	n, e := num.Get(r.b, r.at, size)
	if e != api.OK {
		r.e = e
		return 0
	}
	r.at += size
	return n
}

// text takes a text with its length ahead of it.
func (r *reader) text(place *string) {
	many := int(r.number(1))
	if r.e == api.OK && len(r.b)-r.at < many {
		r.e = api.ErrShort
	}
	if r.e != api.OK {
		return
	}
	*place = string(r.b[r.at : r.at+many])
	r.at += many
}

// truth takes a truth.
func (r *reader) truth(place *bool) {
	n := r.number(1)
	if n > 1 {
		r.e = api.ErrForm
	}
	*place = n == 1
}

// Read tells the configuration that stands in b from at on, and the place
// behind it.
func Read(b []byte, at int) (c api.Config, next int, e api.Errno) {
	if at < 0 || at > len(b) {
		return api.Config{}, 0, api.ErrArg
	}
	r := &reader{b: b, at: at}
	each(&c, fields{
		text:   r.text,
		number: func(size int, place *int64, above int64) { *place = int64(r.number(size)) - above },
		span:   func(size int, place *uint64) { *place = r.number(size) },
		small:  func(place *uint8) { *place = uint8(r.number(1)) },
		truth:  r.truth,
		many:   func(int) int { return int(r.number(1)) },
	})
	if r.e != api.OK {
		return api.Config{}, 0, r.e
	}
	if Check(c) != api.OK {
		return api.Config{}, 0, api.ErrForm
	}
	return c, r.at, api.OK
}
