package lines

import (
	"strconv"

	"gnomon/alarm"
	"gnomon/api"
	"gnomon/expo"
	"gnomon/label"
	"gnomon/real"
	"gnomon/ring"
	"gnomon/rules"
	"gnomon/snap"
	"gnomon/telem"
)

// session is what the commands of a text work on. At first it has nothing: a make gives it all of this.
type session struct {
	telem *telem.Telem
	ring  *ring.Ring
	board *alarm.Board
	specs []alarm.Spec // of which the next board is made
}

// failure is the answer to a command that is refused. Who does a command gives up with it: it panics with a failure, and with nothing else.
type failure string

// must gives up, if there is an error.
func must(e api.Errno) {
	if e != api.OK {
		panic(failure(refused(e)))
	}
}

// mustAt gives up likewise, where a place, a line or a number is told with the error.
func mustAt(e api.Errno, at int) {
	if e != api.OK {
		panic(failure(refused(e) + " at " + digits(int64(at))))
	}
}

func refused(e api.Errno) string { return "error " + digits(int64(e)) }

// answer does the command of a line, and tells the answer's line.
func (s *session) answer(line string) (told string) {
	defer func() {
		if f, gaveUp := recover().(failure); gaveUp {
			told = string(f)
		}
	}()
	c, e, at := Parse(line)
	mustAt(e, at)
	if s.telem == nil && c.Kind != Make {
		must(api.ErrState)
	}
	return joined("ok", kindOf(c).do(s, c))
}

func (s *session) begin(c Command) []string {
	t, e := telem.New(api.Config{Stripes: int(c.N[0]), Precision: int(c.N[1]), Cells: int(c.N[2])})
	must(e)
	r, e := ring.New(int(c.N[3]))
	must(e)
	*s = session{telem: t, ring: r}
	return s.renew(c)
}

func (s *session) counter(c Command) []string { return s.register(api.Counter, c) }

func (s *session) histogram(c Command) []string { return s.register(api.Histogram, c) }

func (s *session) summary(c Command) []string { return s.register(api.Summary, c) }

// register adds an instrument of a kind.
func (s *session) register(kind int, c Command) []string {
	name, labels := series(c)
	id, e := s.telem.Register(api.Desc{Kind: kind, Name: name, Help: c.S[1], Labels: labels})
	must(e)
	return []string{digits(int64(id))}
}

// series tells that which a command names first.
func series(c Command) (string, []api.Label) {
	name, labels, e, at := label.Parse(c.S[0])
	mustAt(e, at)
	return name, labels
}

func (s *session) recorder(c Command) []string {
	handle, e := s.telem.Recorder()
	must(e)
	return []string{digits(int64(handle))}
}

func (s *session) release(c Command) []string {
	must(s.telem.Release(int(c.N[0])))
	return nil
}

func (s *session) add(c Command) []string {
	must(s.telem.Add(int(c.N[0]), int(c.N[1]), c.N[2]))
	return nil
}

func (s *session) observe(c Command) []string {
	must(s.telem.Observe(int(c.N[0]), int(c.N[1]), c.N[2]))
	return nil
}

func (s *session) sample(c Command) []string {
	must(s.telem.Sample(int(c.N[0]), int(c.N[1]), c.X[0]))
	return nil
}

func (s *session) reset(c Command) []string {
	interval := s.telem.Reset()
	must(s.ring.Push(c.N[0], interval))
	return []string{strconv.FormatUint(interval.Refused, 10)}
}

func (s *session) text(c Command) []string {
	page, e := s.telem.Text()
	must(e)
	return []string{quoted(string(page))}
}

func (s *session) window(c Command) []string {
	merged, n, e := s.ring.Window(c.N[0], c.N[1])
	must(e)
	page, e := expo.Write(merged)
	must(e)
	return []string{digits(int64(n)), quoted(string(page))}
}

func (s *session) rate(c Command) []string {
	name, labels := series(c)
	x, e := s.ring.Rate(name, labels, c.N[0], c.N[1])
	must(e)
	return []string{real.Print(x)}
}

func (s *session) quantile(c Command) []string {
	name, labels := series(c)
	merged, _, e := s.ring.Window(c.N[2], c.N[3])
	must(e)
	v, e := snap.Quantile(merged, name, labels, c.N[0], c.N[1])
	must(e)
	return []string{digits(v)}
}

func (s *session) eval(c Command) []string {
	rule, e, at := rules.Parse(c.S[0])
	mustAt(e, at)
	answer, e := rules.Eval(s.ring, c.N[0], rule)
	must(e)
	if answer.Truth {
		return []string{strconv.FormatBool(answer.Is)}
	}
	return []string{real.Print(answer.X)}
}

func (s *session) alarm(c Command) []string {
	if len(s.specs) == api.MaxRules {
		must(api.ErrMany)
	}
	s.specs = append(s.specs, alarm.Spec{Name: c.S[0], Rule: c.S[1], For: c.N[0], Keep: c.N[1]})
	return nil
}

// renew makes the board of all specs anew.
func (s *session) renew(c Command) []string {
	b, e, at := alarm.New(s.specs)
	mustAt(e, at)
	s.board = b
	return nil
}

func (s *session) step(c Command) []string {
	changes, e := s.board.Step(s.ring, c.N[0])
	must(e)
	var parts []string
	for _, one := range changes {
		parts = append(parts, quoted(one.Name), digits(int64(one.From)), digits(int64(one.To)))
	}
	return parts
}

func (s *session) status(c Command) []string {
	var parts []string
	for _, one := range s.board.Status() {
		parts = append(parts, quoted(one.Name), digits(int64(one.State)), digits(one.Since), digits(int64(one.E)))
	}
	return parts
}

func (s *session) load(c Command) []string {
	read, e, line := s.telem.Load([]byte(c.S[0]))
	mustAt(e, line)
	return []string{digits(int64(len(read.Values)))}
}
