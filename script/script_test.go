package script_test

import (
	"fmt"
	"strings"
	"testing"

	"cohort/script"
)

// answers runs a script of lines that are parted by " / ", and tells the
// answers alone, parted likewise (lines of one answer by commas).
func answers(t *testing.T, text string) string {
	t.Helper()
	l := strings.Split(text, " / ")
	out, line, ok := script.Run(strings.Join(l, "\n"))
	if !ok || line != 0 {
		t.Fatalf("%q is no script: line %d", text, line)
	}
	var told []string
	rest := strings.Split(strings.TrimSuffix(out, "\n"), "\n")
	for _, s := range l {
		if s == "" || s[0] == '#' {
			continue
		}
		if len(rest) < 2 || rest[0] != "> "+s {
			t.Fatalf("%q tells %q, and then %q", text, out, rest)
		}
		many := 1
		for many < len(rest) && !strings.HasPrefix(rest[many], "> ") {
			many++
		}
		told = append(told, strings.Join(rest[1:many], ","))
		rest = rest[many:]
	}
	return strings.Join(told, " / ")
}

func tells(t *testing.T, text, want string) {
	t.Helper()
	if got := answers(t, text); got != want {
		t.Errorf("%s\n tells %s\n want  %s", text, got, want)
	}
}

// begun is a script that starts an arena of two pools, both told.
const begun = "pool a demand 1 0 / pool s spot 2 1 / fleet 1 0 10 1 0 0 0 / start 400 / quote 0 5 5 / quote 1 5 5 / "

// oks are the answers of begun.
const oks = "ok / ok / ok / ok / ok / ok / "

// P34.1

func TestTheChaptersExample(t *testing.T) {
	tells(t, "tick / pool a demand 1 0 / fleet 1 0 10 2 0 0 0 / start 400 / quote 0 5 5 / desired 2 / tick / show / quiet 3 / show / all",
		"error 12 / ok / ok / ok / ok / ok / 0 0 / 2 0 2 0 off / ok / 2 2 0 0 off / 1 0 1 3,2 0 1 3,2")
}

func TestTheForm(t *testing.T) {
	for _, x := range []struct{ text, out string }{
		{"", ""}, {"\n", ""}, {"\n\n\n", ""}, {"# a remark", ""}, {"#\xff\x00 / tick  tick\n#", ""},
		{"show", "> show\nerror 12\n"}, {"show\n", "> show\nerror 12\n"}, {"\n\nshow\n\n# x\nall", "> show\nerror 12\n> all\nerror 12\n"},
	} {
		if out, line, ok := script.Run(x.text); out != x.out || line != 0 || !ok {
			t.Errorf("Run(%q) = %q, %d, %t", x.text, out, line, ok)
		}
	}
}

func TestWhatIsNoScript(t *testing.T) {
	for _, s := range []string{
		" ", "tick ", " tick", "tick\t", "tick\r", "Tick", "ticks", "tick 1", "x", "show 1", "all 0", "config 1", "cancel x", "rollback 0", " # no remark",
		"pool", "pool a", "pool a demand", "pool a demand 1", "pool a demand 1 2 3", "pool A demand 1 2", "pool a Demand 1 2", "pool a x 1 2", "pool -a spot 1 2", "pool a spot  1 2", "pool a spot x 2", "pool " + strings.Repeat("a", 25) + " spot 1 2",
		"fleet 1 2 3 4 5 6", "fleet 1 2 3 4 5 6 7 8", "fleet a 2 3 4 5 6 7", "time 1 2 3 4", "time 1 2 3 4 5 6", "start", "start 64 64", "start -64",
		"desired", "desired -1", "desired +1", "desired 01", "desired 00", "desired 2147483648", "desired 99999999999", "desired 99999999999999999999999", "desired 1.0", "desired 0x1", "desired 1_0", "desired \u0661", "desired ", "desired 1 ",
		"metric", "refresh 1 2", "refresh 1 2 3 4", "hold 1", "hold 1 2 3", "done 1", "beat", "beat 1 2", "grant", "refuse 1 2", "ready", "stopped", "end", "kill", "risk", "notice 1", "notice 1 2 3", "quote 1 2", "quote 1 2 3 4", "cut", "cut x", "cut 1 x", "cut 1 2 -3", "quiet", "quiet 1 2",
	} {
		for at, text := range []string{s, "tick\n" + s + "\ntick", "\n#\n" + s + "\nx\ny"} {
			if out, line, ok := script.Run(text); out != "" || line != at || ok {
				t.Errorf("Run(%q) = %q, %d, %t", text, out, line, ok)
			}
		}
	}
}

func TestHowManyLines(t *testing.T) {
	for _, x := range []struct {
		text string
		line int
		ok   bool
	}{
		{strings.Repeat("\n", 1000), 0, true}, {strings.Repeat("\n", 1001), 1000, false}, {strings.Repeat("#\n", 999) + "#", 0, true}, {strings.Repeat("#\n", 1000) + "#", 1000, false}, {strings.Repeat("\n", 1000) + "x", 1000, false},
		{strings.Repeat("\n", 999) + "x", 999, false}, {strings.Repeat("\n", 999) + "x\n\n\n", 999, false}, {"x" + strings.Repeat("\n", 2000), 0, false}, {strings.Repeat("\n", 2000) + "x", 1000, false},
	} {
		if out, line, ok := script.Run(x.text); out != "" || line != x.line || ok != x.ok {
			t.Errorf("%d lines: %q, %d, %t", strings.Count(x.text, "\n"), out, line, ok)
		}
	}
}

func TestAheadOfStart(t *testing.T) {
	var l, want []string
	for _, s := range []string{"desired 1", "metric 1", "config", "cancel", "rollback", "refresh 1 100 1", "hold 1 1", "hold 1 7", "done 1 2", "beat 1", "grant 0", "refuse 0", "ready 0", "stopped 0", "end 0", "kill 0", "risk 0", "notice 0 5", "quote 0 5 5", "tick", "cut 1", "cut 1 2 3", "quiet 1", "quiet 99999", "show", "all"} {
		l, want = append(l, s), append(want, "error 12")
	}
	tells(t, strings.Join(l, " / "), strings.Join(want, " / "))
	// A start that is refused lets go the arena that there was.
	tells(t, begun+"show / start 63 / show / start 64 / show", oks+"0 0 0 0 off / error 2 / error 12 / ok / 0 0 0 0 off")
}

func TestTheConfigThatIsToBe(t *testing.T) {
	tells(t, "start 400 / pool a demand 1 0 / start 400 / fleet 1 0 10 0 0 0 0 / start 400", "error 2 / ok / error 2 / ok / ok")
	tells(t, "pool a demand 1 0 / fleet 5 0 10 0 0 0 0 / start 400 / fleet 0 0 10 0 0 0 0 / start 400 / fleet 4 0 10 0 0 0 0 / fleet 2147483647 0 0 0 0 0 0 / start 400", "ok / error 2 / error 2 / ok / error 2 / ok / error 2 / ok")
	tells(t, "pool a demand 1 0 / pool a demand 1 0 / fleet 1 0 10 0 0 0 0 / start 400", "ok / ok / ok / error 2")
	tells(t, "fleet 1 3 10 9 0 0 0 / pool a demand 7 0 / start 400 / quote 0 5 5 / tick / quiet 3 / all", "ok / ok / ok / ok / 0 / ok / 1 0 7 3,1")
	// Spread is 1: the cheapest is asked, whatever its load is.
	tells(t, "pool a demand 1 0 / pool b demand 1 0 / fleet 2 0 9 9 0 0 0 / start 400 / quote 0 6 5 / quote 1 5 5 / desired 3 / tick / quiet 3 / all", "ok / ok / ok / ok / ok / ok / ok / 0 0 0 / ok / 1 1 1 3,2 1 1 3,3 1 1 3,3")
	// fleet lets go what time said; time keeps what fleet said.
	tells(t, "pool a demand 1 0 / time 1 1 1 1 50 / fleet 1 1 9 9 0 0 0 / start 400 / quote 0 5 5 / tick / grant 0 / ready 0 / tick / all", "ok / ok / ok / ok / ok / 0 / ok / ok / 0 0 / 1 0 1 3,1")
	tells(t, "pool a demand 1 0 / fleet 1 1 9 9 0 0 0 / time 1 4 1 1 50 / start 400 / quote 0 5 5 / tick / grant 0 / ready 0 / tick / all", "ok / ok / ok / ok / ok / 0 / ok / ok / 0 0 / 1 0 1 2,1")
	// A metric is followed by Target; Cool is over at its tick.
	tells(t, "pool a demand 1 0 / fleet 1 2 9 0 0 0 0 / time 0 0 0 2 50 / start 400 / metric 100 / tick / show / metric 100 / tick / show / metric 100 / tick / show", "ok / ok / ok / ok / ok / 0 / 4 0 0 0 off / ok / 0 / 4 0 0 0 off / ok / 0 / 8 0 0 0 off")
	// Another config is told to the arena that there is.
	tells(t, begun+"fleet 1 0 3 0 0 0 0 / desired 9 / tick / show / config / tick / show", oks+"ok / ok / 0 0 0 / 9 0 9 0 off / ok / 0 / 3 0 9 0 off")
	tells(t, begun+"fleet 0 0 3 0 0 0 0 / config / fleet 1 0 10 0 0 0 0 / pool x demand 0 0 / config", oks+"ok / error 2 / ok / ok / error 2")
	// Black is 10: a pool that was refused is asked again behind it; Deadline is 20.
	tells(t, "pool a demand 1 0 / fleet 1 1 9 9 0 0 0 / start 400 / quote 0 5 5 / tick / refuse 0 / tick / show"+strings.Repeat(" / tick", 9)+" / show / tick / show", "ok / ok / ok / ok / 0 / ok / 0 / 1 0 0 0 off"+strings.Repeat(" / -", 9)+" / 1 0 0 0 off / - / 1 0 1 0 off")
	tells(t, "pool a demand 1 0 / fleet 1 1 9 9 0 0 0 / start 400 / quote 0 5 5"+strings.Repeat(" / tick", 20)+" / show / tick / show", "ok / ok / ok / ok / 0"+strings.Repeat(" / -", 19)+" / 1 0 1 0 off / - / 1 0 0 0 off")
}

func TestWhatIsSaid(t *testing.T) {
	tells(t, begun+"desired 65536 / desired 65537 / metric 1048576 / metric 1048577 / cancel / rollback / refresh 50 150 10 / refresh 101 150 10 / refresh 50 99 10 / refresh 50 150 101 / tick / show",
		oks+"ok / error 2 / ok / error 2 / ok / ok / ok / error 2 / error 2 / error 2 / 0 0 0 0 12 12 0 / 10 0 11 0 off")
	tells(t, begun+"hold 1 0 / hold 1 1 / hold 1 2 / hold 0 1 / done 1 0 / done 1 1 / done 1 2 / beat 1 / beat 0 / tick",
		oks+"ok / ok / error 2 / error 2 / ok / ok / error 2 / ok / error 2 / 7 0 7 0 7 7 7")
	tells(t, begun+"desired 2 / tick / quiet 3 / hold 1 1 / hold 2 1 / desired 0 / tick / show / hold 2 0 / tick / all", oks+"ok / 0 0 0 / ok / ok / ok / ok / 0 0 0 / 0 3 0 0 off / ok / 0 / 1 0 1 3,2 1 2 4,2")
	// A refresh: on, until all is renewed.
	tells(t, begun+"desired 1 / tick / quiet 3 / refresh 0 200 0 / tick / show / quiet 9 / show / all", oks+"ok / 0 0 0 / ok / ok / 0 / 1 0 1 0 on / ok / 1 1 0 0 off / 2 0 1 3,1")
}

func TestTheCloudsActs(t *testing.T) {
	tells(t, begun+"desired 3 / tick / grant 1 / grant 0 / refuse 9 / tick / all / ready 1 / ready 1 / tick / all / risk 1 / notice 1 9 / tick / all / kill 0 / kill 0 / tick / all / notice 0 5 / quote 99 5 5 / quote 0 0 5 / tick",
		oks+"ok / 0 0 0 / ok / ok / ok / 0 0 / 1 1 2 1,2 0 1 1,2 / ok / ok / 0 / 1 1 2 1,2 0 1 3,2 / ok / ok / 0 0 / 1 1 2 1,2 0 1 6,2 / ok / ok / 0 / 2 0 1 6,1 / ok / ok / ok / -")
	// The warm pool: granted, up, stopped, woken, ended.
	tells(t, "pool a demand 1 0 / fleet 1 0 9 9 0 0 1 / start 400 / quote 0 5 5 / tick / grant 0 / ready 0 / tick / show / tick / stopped 0 / tick / all / desired 1 / tick / show / ready 0 / tick / show",
		"ok / ok / ok / ok / 0 / ok / ok / 0 0 / 0 0 0 1 off / - / ok / 0 / 1 0 1 8,1 / ok / 0 / 1 0 1 1 off / ok / 0 / 1 1 0 1 off")
	tells(t, begun+"desired 1 / tick / quiet 2 / desired 0 / tick / end 0 / end 0 / tick / all", oks+"ok / 0 0 0 / ok / ok / 0 / ok / ok / - / 1 0 1 6,1")
}

func TestTicksCutsAndQuiet(t *testing.T) {
	tells(t, begun+"cut 1 / show / desired 1 / cut 9 64 / show / quote 0 5 5 / cut 0 / desired 1 / tick / cut 1 2 3 / all / quiet 0 / quiet 10000 / quiet 10001 / all",
		oks+"- / 0 0 0 0 off / ok / 0 / 1 0 0 0 off / ok / 0 / ok / 0 / - / 0 / ok / ok / error 2 / 1 0 1 3,1")
	// Where there is no room: error 10.
	tells(t, "pool a demand 1 0 / fleet 1 0 500 500 0 0 0 / start 64 / quote 0 5 5 / desired 500 / tick / show / quiet 2 / quote 0 5 5 / desired 500 / quiet 2", "ok / ok / ok / ok / ok / error 10 / 0 0 0 0 off / ok / ok / ok / error 10")
}

// P34.2

func TestFurtherLines(t *testing.T) {
	l := strings.Split(begun+"desired 3 / tick / # a remark /  / quiet 4 / all / refresh 90 110 50 / tick / show / cut 2 1 2 / show / kill 0 / tick / quiet 40 / all / start 1 / show", " / ")
	l[8+1] = "# a remark"
	whole := ""
	for i := range len(l) + 1 {
		text := strings.Join(l[:i], "\n")
		for _, end := range []string{"", "\n"} {
			out, line, ok := script.Run(text + end)
			if !ok || line != 0 || !strings.HasPrefix(out, whole) {
				t.Fatalf("%d lines: %q, %d, %t", i, out, line, ok)
			}
			whole = out
		}
	}
	for i := range 20 {
		text := fmt.Sprintf("pool a demand 1 %d\n", i)
		short, _, _ := script.Run(text)
		long, _, _ := script.Run(text + "fleet 1 0 9 0 0 0 0\nstart 400\nshow")
		if !strings.HasPrefix(long, short) || long == short {
			t.Errorf("%q, and with further lines %q", short, long)
		}
	}
}
