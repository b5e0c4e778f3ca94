package script

import (
	"strconv"
	"strings"

	"cohort/api"
	"cohort/arena"
	"cohort/name"
)

// mostDigits is how many digits a number has at most, which is below 2^31.
const mostDigits = 10

// words are those of a line that were not taken yet, behind its first one.
type words struct {
	first string
	rest  []string
}

// noLine is what a reader leaves by, if the line is none of a script.
type noLine struct{}

// rows tells who reads the line that begins with a word.
func rows() map[string]func(*words) answer {
	return map[string]func(*words) answer{
		"pool":     (*words).pool,
		"fleet":    (*words).fleet,
		"time":     (*words).time,
		"start":    (*words).start,
		"desired":  (*words).amount,
		"metric":   (*words).amount,
		"config":   (*words).config,
		"cancel":   (*words).order,
		"rollback": (*words).order,
		"refresh":  (*words).refresh,
		"hold":     (*words).flag,
		"done":     (*words).flag,
		"beat":     (*words).beat,
		"grant":    (*words).act,
		"refuse":   (*words).act,
		"ready":    (*words).act,
		"stopped":  (*words).act,
		"end":      (*words).act,
		"kill":     (*words).act,
		"risk":     (*words).act,
		"notice":   (*words).notice,
		"quote":    (*words).quote,
		"tick":     (*words).tick,
		"cut":      (*words).cut,
		"quiet":    (*words).quiet,
		"show":     (*words).show,
		"all":      (*words).all,
	}
}

// parse tells what a line does; no, if it is none of a script.
func parse(line string) (do answer, ok bool) {
	defer func() {
		if recover() != nil {
			do, ok = nil, false
		}
	}()
	l := strings.Split(line, " ")
	w := &words{first: l[0], rest: l[1:]}
	read, ok := rows()[w.first]
	if !ok {
		return nil, false
	}
	do = read(w)
	if len(w.rest) > 0 {
		panic(noLine{})
	}
	return do, true
}

// take takes a word.
func (w *words) take() string {
	if len(w.rest) == 0 {
		panic(noLine{})
	}
	s := w.rest[0]
	w.rest = w.rest[1:]
	return s
}

// number takes a number in tens, without a needless nought, below 2^31.
func (w *words) number() int64 {
	s := w.take()
	if s == "" || len(s) > mostDigits || s[0] == '0' && len(s) > 1 || strings.Trim(s, "0123456789") != "" {
		panic(noLine{})
	}
	n, err := strconv.ParseInt(s, 10, 64)
	if err != nil || n >= 1<<31 {
		panic(noLine{})
	}
	return n
}

// name takes a name.
func (w *words) name() string {
	s := w.take()
	if !name.Is(s) {
		panic(noLine{})
	}
	return s
}

// market takes a market: is it spot?
func (w *words) market() bool {
	switch w.take() {
	case "spot":
		return true
	case "demand":
		return false
	}
	panic(noLine{})
}

func (w *words) pool() answer {
	p := api.Pool{Name: w.name(), Spot: w.market(), Weight: w.number(), Priority: w.number()}
	return func(st *stage) string {
		st.c.Pools = append(st.c.Pools, p)
		return told(api.OK)
	}
}

func (w *words) fleet() answer {
	strategy := w.number()
	c := api.Config{Min: w.number(), Max: w.number(), Base: w.number(), Percent: w.number(), Surge: w.number(), Warm: w.number()}
	c.Spread, c.Deadline, c.Black = 1, 20, 10
	return func(st *stage) string {
		if strategy > api.PriceCapacity {
			return told(api.ErrArg)
		}
		c.Strategy, c.Pools = uint8(strategy), st.c.Pools
		st.c = c
		return told(api.OK)
	}
}

func (w *words) time() answer {
	drain, in, out, cool, target := w.number(), w.number(), w.number(), w.number(), w.number()
	return func(st *stage) string {
		st.c.Drain, st.c.HookIn, st.c.HookOut, st.c.Cool = uint64(drain), uint64(in), uint64(out), uint64(cool)
		st.c.Target = target
		return told(api.OK)
	}
}

func (w *words) start() answer {
	blocks := w.number()
	return func(st *stage) string {
		a, e := arena.New(int(blocks), st.c)
		st.a = a
		return told(e)
	}
}

// says tells the answer of what the operator says.
func says(x api.Event) answer {
	return moves(api.Move{Kind: api.MoveSay, Event: x})
}

// saying tells which event of the operator's a word says.
func saying(word string) uint8 {
	switch word {
	case "desired":
		return api.EvDesired
	case "metric":
		return api.EvMetric
	case "cancel":
		return api.EvCancel
	case "rollback":
		return api.EvRollback
	case "hold":
		return api.EvHold
	case "done":
		return api.EvDone
	}
	return 0
}

func (w *words) amount() answer {
	return says(api.Event{Kind: saying(w.first), A: w.number()})
}

func (w *words) order() answer {
	return says(api.Event{Kind: saying(w.first)})
}

func (w *words) config() answer {
	return staged(func(a *arena.Arena, c api.Config) string {
		_, e := a.Do(api.Move{Kind: api.MoveSay, Event: api.Event{Kind: api.EvConfig, Config: c}})
		return told(e)
	})
}

func (w *words) refresh() answer {
	return says(api.Event{Kind: api.EvRefresh, A: w.number(), B: w.number(), At: uint64(w.number())})
}

func (w *words) flag() answer {
	x := api.Event{Kind: saying(w.first), Id: uint64(w.number())}
	n := w.number()
	if n > 1 {
		return staged(func(*arena.Arena, api.Config) string { return told(api.ErrArg) })
	}
	x.On = n == 1
	return says(x)
}

func (w *words) beat() answer {
	return says(api.Event{Kind: api.EvBeat, Id: uint64(w.number())})
}

// acts tells the answer of an act of the cloud's.
func acts(a api.Act) answer {
	return moves(api.Move{Kind: api.MoveAct, Act: a})
}

// acting tells which act a word is.
func acting(word string) uint8 {
	switch word {
	case "grant":
		return api.ActGrant
	case "refuse":
		return api.ActRefuse
	case "ready":
		return api.ActReady
	case "stopped":
		return api.ActStop
	case "end":
		return api.ActEnd
	case "kill":
		return api.ActKill
	case "risk":
		return api.ActRisk
	}
	return 0
}

func (w *words) act() answer {
	return acts(api.Act{Kind: acting(w.first), N: int(w.number())})
}

func (w *words) notice() answer {
	return acts(api.Act{Kind: api.ActNotice, N: int(w.number()), At: uint64(w.number())})
}

func (w *words) quote() answer {
	return acts(api.Act{Kind: api.ActQuote, N: int(w.number()), A: w.number(), B: w.number()})
}

func (w *words) tick() answer { return ticks(api.Move{}) }

func (w *words) cut() answer {
	m := api.Move{Arm: int(w.number())}
	for len(w.rest) > 0 {
		m.Picks = append(m.Picks, int(w.number()))
	}
	return ticks(m)
}

func (w *words) quiet() answer {
	n := int(w.number())
	return staged(func(a *arena.Arena, _ api.Config) string { return told(a.Quiet(n)) })
}

func (w *words) show() answer { return staged(show) }

func (w *words) all() answer { return staged(all) }
