package shell

import (
	"math/rand"
	"slices"
	"strconv"
	"strings"
	"testing"

	"passim/api"
	"passim/hash"
)

func run(t *testing.T, hosts int, script string) []string {
	r, e := Run(hosts, script)
	if e != api.OK {
		t.Fatal("P46.3:", e)
	}
	return r.Lines
}

// expect runs commands in a new shell, and compares their replies; several lines of one reply are separated by "; ".
func expect(t *testing.T, hosts int, script [][2]string) {
	t.Helper()
	s, e := New(hosts)
	if e != api.OK {
		t.Fatal("P46.1:", e)
	}
	for _, x := range script {
		if got := strings.Join(s.Do(x[0]), "; "); got != x[1] {
			t.Errorf("P46.2: %q: %q and not %q", x[0], got, x[1])
		}
	}
}

func TestExample(t *testing.T) {
	expect(t, 1, [][2]string{
		{"volume 0", "ok 0.0"}, {"article 0 0 odes", "ok 0.1"}, {"insert 0 0 0 0 para - the king", "ok 0.2"}, {"edition 0", "ok 0.3"}, {"text 0", "volume 0; article odes; 0.2.0 para the king"}, {"press 0 0 40 12", "issue 0"},
		{"where 0 0 0.2.0", "e0:1:1:08"}, {"resolve 0 0 0 0 0 e0:1:1:08", "found 0.2.0 from 0.2.0 on 0"}, {"page 0 0 0", "odes; the king"}, {"hold 0 0.2.0 3", "ok 0.4"}, {"public 0 0 2", "volume 0; article odes; 0.0.0 para the king"}, {"public 0 0 3", "volume 0"},
		{"delete 0 9.9.9", "ok 0.5"}, {"jump", "error 2"},
	})
}

func TestWork(t *testing.T) {
	expect(t, 2, [][2]string{
		{"volume 0", "ok 0.0"}, {"article 0 0 the odes", "ok 0.1"}, {"insert 0 0 0 0 para 0.3.0 the king @ sings", "ok 0.2"}, {"insert 0 0 0 1 note - a lyre", "ok 0.3"}, {"insert 0 0 0 2 plate - rome", "ok 0.4"}, {"insert 0 0 0 3 table - 12", "ok 0.5"},
		{"split 0 0.2.0 1", "ok 0.6"}, {"text 0", "volume 0; article the odes; 0.6.0 para the; 0.6.1 para king @ sings; 0.3.0 note a lyre; 0.4.0 plate rome; 0.5.0 table 12"}, {"merge 0 0.6.0", "ok 0.7"}, {"move 0 0.5.0 0 0 0", "ok 0.8"}, {"swap 0 0.5.0 0.4.0", "ok 0.9"},
		{"refer 0 0.7.0 0.4.0", "ok 0.10"}, {"rewrite 0 0.7.0 2 0-0,1-1 0.5.0,0.4.0 a @ b | c @", "ok 0.11"}, {"delete 0 0.5.0", "ok 0.12"}, {"text 0", "volume 0; article the odes; 0.4.0 plate rome; 0.11.0 para a @ b; 0.11.1 para c @"}, {"text 1", ""},
		{"calm", "ok"}, {"text 1", "volume 0; article the odes; 0.4.0 plate rome; 0.11.0 para a @ b; 0.11.1 para c @"}, {"volume 1", "ok 1.0"}, {"free 1 0.4.0 7", "ok 1.1"}, {"text 2", "error 1"}, {"volume 2", "error 1"},
	})
}

func TestNetwork(t *testing.T) {
	expect(t, 2, [][2]string{
		{"edition 0", "ok 0.0"}, {"deliver 0", "error 6"}, {"send 0", "ok"}, {"repeat 0", "ok"}, {"forge 0 3", "ok"}, {"repeat 5", "error 9"}, {"lose 0", "ok"}, {"lose 0", "error 6"}, {"send 0", "ok"}, {"deliver 0", "ok"}, {"trip 1 1", "ok"}, {"edition 1", "error 23"}, {"text 1", "error 23"}, {"crash 1", "ok"}, {"crash 2", "error 1"},
		{"trip 2 1", "error 1"}, {"send 9", "error 1"}, {"calm", "ok"}, {"verdicts 0 0", ""}, {"verdicts 1 1", ""}, {"verdicts 1 2", "error 6"},
	})
}

const house0 = "volume 0\narticle 0 0 odes\ninsert 0 0 0 0 para - the king\ninsert 0 0 0 1 para - Rome\nterm 0 person king - -\nterm 0 place rome - -\nterm 0 subject ruler - -\nterm 0 subject prince king -\nedition 0\ncalm"

// open returns a shell of three hosts behind a script.
func open(t *testing.T, script string) *Shell {
	s, e := New(3)
	if e != api.OK {
		t.Fatal(e)
	}
	for _, line := range strings.Split(script, "\n") {
		if r := s.Do(line); strings.HasPrefix(r[0], "error") {
			t.Fatal(line, r)
		}
	}
	return s
}

func check(t *testing.T, s *Shell, script [][2]string) {
	t.Helper()
	for _, x := range script {
		if got := strings.Join(s.Do(x[0]), "; "); got != x[1] {
			t.Errorf("P46.2: %q: %q and not %q", x[0], got, x[1])
		}
	}
}

func TestVerdicts(t *testing.T) {
	s := open(t, house0)
	check(t, s, [][2]string{
		{"verdicts 0 0", "0.2.0 open -; 0.3.0 open -"}, {"post 1 0.2.0 king!,king/of_rome", "ok 1.0"}, {"post 2 0.2.0 king/of_rome,king!", "ok 2.0"}, {"post 1 0.3.0 rome", "ok 1.1"}, {"post 2 0.3.0 rome!", "ok 2.1"}, {"calm", "ok"}, {"verdicts 0 0", "0.2.0 agreed king!,king/of_rome; 0.3.0 clash -"},
		{"settle 0 0.3.0 rome!,-", "ok 0.9"}, {"verdicts 0 0", "0.2.0 agreed king!,king/of_rome; 0.3.0 settled -,rome!"}, {"verdicts 1 0", "0.2.0 agreed king!,king/of_rome; 0.3.0 clash -"}, {"settle 0 0.3.0 -", "ok 0.10"}, {"verdicts 0 0", "0.2.0 agreed king!,king/of_rome; 0.3.0 settled -"},
		{"settle 0 0.3.0 rome!", "ok 0.11"}, {"verdicts 0 0", "0.2.0 agreed king!,king/of_rome; 0.3.0 settled rome!"},
	})
	check(t, s, [][2]string{
		{"press 0 0 40 12", "issue 0"}, {"index 0 0 0", "king @ 1* 1;   of rome @ 1: 1; prince @see king; rome @ 1* 1"}, {"index 0 0 1", "error 6"}, {"index 0 1 0", "error 6"}, {"index 9 9 0", "error 1"},
		{"policy rule a each term demand post rule b no heading if level = 2 rule c entry subject demand heading", "rules 3"}, {"breaches 0 0 0", "1 heading king/of_rome; 2 heading 0.0.0 ruler"}, {"release 0 0 0", "error 15"}, {"policy let a = b", "error 11 0"}, {"policy let a = 1 let ;", "error 2 14"}, {"breaches 0 0 0", "1 heading king/of_rome; 2 heading 0.0.0 ruler"},
		{"policy let a = 1", "rules 0"}, {"breaches 0 0 0", "none"}, {"breaches 0 0 4", "error 6"}, {"release 0 3 0", "error 6"}, {"release 0 0 7", "error 16"},
	})
	reply := s.Do("release 0 0 0")
	if len(reply) != 1 || len(reply[0]) != len("release 01234567") || !strings.HasPrefix(reply[0], "release ") || strings.Trim(reply[0][8:], "0123456789abcdef") != "" {
		t.Error("P46.2:", reply)
	}
	check(t, s, [][2]string{
		{"rewrite 0 0.2.0 1 0-0 - the king", "ok 0.12"}, {"rewrite 0 0.3.0 1 0-0 - Rome king", "ok 0.13"}, {"insert 0 0 0 0 para - ode", "ok 0.14"}, {"edition 0", "ok 0.15"}, {"again 0 0 1", "0.14.0 new; 0.12.0 kept 0.2.0; 0.13.0 text"}, {"again 0 1 0", "error 5"}, {"again 0 0 2", "error 6"},
		{"term 0 person king - ruler", "ok 0.16"}, {"term 0 person rome_king - -", "ok 0.17"}, {"edition 0", "ok 0.18"}, {"again 0 1 2", "0.14.0 kept 0.14.0; 0.12.0 terms king; 0.13.0 terms king"}, {"public 0 9 0", "error 6"}, {"public 0 0 9999999", "error 5"}, {"public 0 0 1048576", "volume 0; article odes; 0.0.0 para the king; 0.0.1 para Rome"},
	})
}

func TestPrinting(t *testing.T) {
	s := open(t, house0+"\nsplit 0 0.2.0 1\ndelete 0 0.3.0\nedition 0\npress 0 0 8 2\npress 0 1 8 2")
	check(t, s, [][2]string{
		{"press 0 2 8 2", "error 6"}, {"press 0 0 7 2", "error 1"}, {"press 5 0 8 2", "error 1"}, {"page 0 0 0", "odes; the king"}, {"page 0 0 1", "Rome"}, {"page 0 0 2", "error 6"}, {"page 0 1 0", "error 6"}, {"page 2 0 0", "error 6"},
		{"tear 0 0 1", "change 0"}, {"tear 0 0 2", "error 1"}, {"drop 0 0", "change 1"}, {"drop 0 1", "error 1"}, {"paste 0 0 2 0.2.0 errata corrige", "change 2"}, {"paste 0 0 3 0.2.0 x", "error 1"}, {"tear 2 0 1", "error 6"}, {"state 0 0", "e0a"}, {"state 0 2", "e0c"}, {"state 0 2", "error 7"}, {"state 0 -", "error 7"}, {"state 0 3", "error 1"}, {"state 0 1,2", "e0bc"},
		{"page 0 1 0", "missing"}, {"page 0 2 1", "Rome; + errata corrige"}, {"page 0 0 1", "Rome"}, {"where 0 2 0.2.0", "e0c:1:1:07"},
	})
	where := s.Do("where 0 0 0.2.0,0.3.0")
	check(t, s, [][2]string{
		{"where 0 0 -", "none"}, {"where 0 1 0.2.0", "error 6"}, {"where 9 0 -", "error 6"}, {"where 0 9 -", "error 6"},
		{"resolve 0 0 0 0 2 " + where[0], "found 0.2.0 from 0.2.0 on 0,1; found 0.3.0 from 0.3.0 on 1"}, {"resolve 0 0 0 1 0 " + where[0], "found 0.9.0 from 0.2.0 on 0; found 0.9.1 from 0.2.0 on 1; lost 0.3.0 cut"}, {"resolve 0 0 0 0 1 " + where[0], "lost 0.2.0 lost; lost 0.3.0 lost"},
		{"resolve 0 0 1 0 0 " + where[0], "error 18"}, {"resolve 0 0 0 0 0 e0:1:1:07", "error 9"}, {"resolve 0 9 0 0 0 x", "error 6"}, {"resolve 0 0 0 9 0 x", "error 6"}, {"resolve 9 9 0 0 0 x", "error 1"}, {"resolve 0 0 0 0 0 x", "error 2"}, {"ask 9 0.2.0", "error 6"}, {"ask 0 5.5.5", "cost 0 -1,0"},
	})
	// The slip and the torn leaf: whether the page is there, and whether it has a slip.
	check(t, s, [][2]string{{"ask 0 0.2.0", "cost 1 1,3,0,1,2,-1,1,-1,0,-1,2"}, {"ask 0 0.3.0", "cost 1 0,2,0,1,-1,1,-1,0"}, {"where 0 0 0.2.0,0.3.0", where[0]}})
}

func TestForm(t *testing.T) {
	s := open(t, house0)
	for _, line := range []string{"", " ", "volume", "volume 0 ", " volume 0", "volume  0", "volume 0 0", "volume x", "volume -1", "volume +1", "volume 12345678", "volume 0\t", "Volume 0", "volume 0\x7f", "article 0 0", "insert 0 0 0 0 para - ", "insert 0 0 0 0 para -", "insert 0 0 0 0 verse - x", "insert 0 0 0 0 para 0.0 x", "insert 0 0 0 0 para 0.0.0, x", "insert 0 0 0 0 para 0.0.0.0 x",
		"insert 0 0 0 0 para -,0.0.0 x", "delete 0 0.0", "delete 0 -", "split 0 0.0.0", "rewrite 0 0.0.0 1 0 - x", "rewrite 0 0.0.0 1 0-0-0 - x", "rewrite 0 0.0.0 1 - -", "term 0 ode x - -", "term 0 person x -", "term 0 person x/y - -", "term 0 person x! - -", "term 0 person x,y - -", "term 0 person x - a,,b", "post 0 0.0.0", "post 0 0.0.0 a//b", "post 0 0.0.0 !", "post 0 0.0.0 a!!", "post 0 0.0.0 a!/b", "post 0 0.0.0 a,",
		"hold 0 0.0.0", "calm 0", "forge 0", "trip 0", "text", "state 0", "state 0 1,", "policy", "resolve 0 0 0 0 0", "paste 0 0 1 0.0.0", "jump 0", "text 0 " + strings.Repeat("x", 5000)} {
		if r := s.Do(line); !slices.Equal(r, []string{"error 2"}) {
			t.Errorf("P46.2: %q: %q", line, r)
		}
	}
	check(t, s, [][2]string{{"post 0 0.2.0 a!,b/c_d!,-", "ok 0.9"}, {"term 0 person - - -", "error 1"}, {"term 0 place a_b c -,d", "ok 0.10"}, {"rewrite 0 0.2.0 1 - - |", "ok 0.11"}, {"volume 0000000", "ok 0.12"}, {"text 00", "volume 0; article odes; 0.2.0 para the king; 0.3.0 para Rome; volume 1"}})
	var nothing *Shell
	if r := nothing.Do("volume 0"); !slices.Equal(r, []string{"error 1"}) {
		t.Error("P46.2: a nil shell:", r)
	}
}

func TestRun(t *testing.T) {
	for _, hosts := range []int{0, 6, -1} {
		s, e := New(hosts)
		r, e2 := Run(hosts, strings.Repeat("x", 1<<17))
		if s != nil || e != api.ErrArg || e2 != e || len(r.Lines) > 0 || r.Sum != (api.Digest{}) {
			t.Error("P46.1, P46.3:", hosts, e, e2)
		}
	}
	if _, e := Run(1, strings.Repeat("\n", 1<<16+1)); e != api.ErrLimit {
		t.Error("P46.3:", e)
	}
	r, e := Run(1, strings.Repeat("\n", 1<<16))
	if len(r.Lines) > 0 || r.Sum != hash.Of(api.TagReport, "") || e != api.OK {
		t.Error("P46.3:", e)
	}
	r, _ = Run(1, "\nvolume 0\n\ntext 0\njump")
	if !slices.Equal(r.Lines, []string{"ok 0.0", "volume 0", "error 2"}) || r.Sum != hash.Of(api.TagReport, "ok 0.0\nvolume 0\nerror 2\n") {
		t.Error("P46.3:", r)
	}
}

// random returns commands that are often possible.
func random(r *rand.Rand, n int) []string {
	l := strings.Split(house0, "\n")
	at := func() string { return "0." + strconv.Itoa(r.Intn(14)) + ".0" }
	for range n {
		h := strconv.Itoa(r.Intn(3))
		l = append(l, []string{"volume " + h, "insert " + h + " 0 0 0 para - new ode", "split " + h + " " + at() + " 1", "delete " + h + " " + at(), "edition " + h, "post " + h + " " + at() + " king", "hold " + h + " " + at() + " 2", "send " + h, "deliver " + h, "repeat 1", "lose 0", "forge 0 1", "calm",
			"text " + h, "public " + h + " 0 1", "verdicts " + h + " 0", "again " + h + " 0 1", "press " + h + " 0 40 12", "tear 0 0 1", "state 0 0", "page 0 0 0", "ask 0 " + at(), "where 0 0 " + at(), "resolve " + h + " 0 0 0 0 e0:1:1:08", "policy let a = 1", "breaches " + h + " 0 0", "index " + h + " 0 0", "release " + h + " 0 0"}[r.Intn(28)])
	}
	return l
}

func TestProperties(t *testing.T) {
	r := rand.New(rand.NewSource(1))
	questions := []string{"text", "public", "verdicts", "again", "page", "ask", "where", "resolve", "breaches", "index", "release"}
	for range 25 {
		l := random(r, 60)
		all := run(t, 3, strings.Join(l, "\n"))
		part := run(t, 3, strings.Join(l[:40], "\n"))
		if len(part) > len(all) || !slices.Equal(part, all[:len(part)]) {
			t.Fatal("P46.4")
		}
		whole, silent := open(t, house0), open(t, house0)
		for _, line := range l[10:] {
			reply := whole.Do(line)
			if slices.Contains(questions, strings.Split(line, " ")[0]) {
				continue
			}
			if other := silent.Do(line); !slices.Equal(reply, other) {
				t.Fatal("P46.5:", line, reply, other)
			}
		}
		if x := whole.Do("calm"); x[0] != "ok" {
			t.Fatal("P46.6:", x)
		}
		whole.Do("press 0 0 40 12")
		for _, ask := range []string{"text H", "verdicts H 0", "index H 0 0"} {
			first := whole.Do(strings.Replace(ask, "H", "0", 1))
			for _, h := range []string{"1", "2"} {
				if other := whole.Do(strings.Replace(ask, "H", h, 1)); !slices.Equal(first, other) {
					t.Fatal("P46.6:", ask, first, other)
				}
			}
		}
	}
}

func TestSecret(t *testing.T) {
	script := func(text string) string {
		return "volume 0\narticle 0 0 odes\narticle 0 0 secret\ninsert 0 0 1 0 para - " + text + "\ninsert 0 0 0 0 para 0.3.0 see @\nsend 0\ndeliver 0\nedition 0\nhold 1 0.3.0 4\ncalm\npublic 0 0 4\npublic 1 0 9\npublic 2 0 5"
	}
	a, b := run(t, 3, script("the treasure")), run(t, 3, script("a quite different text of more words"))
	if !slices.Equal(a, b) || !slices.Contains(a, "0.0.0 para see @") {
		t.Error("P46.7:", a, b)
	}
}
