package scrape_test

import (
	"cmp"
	"math"
	"math/big"
	"math/rand"
	"regexp"
	"slices"
	"strconv"
	"strings"
	"unicode/utf8"

	"gnomon/api"
	"gnomon/bucket"
	"gnomon/real"
	"gnomon/snap"
)

var minus = math.Copysign(0, -1)

const (
	mostOf63  = math.MaxInt64
	mostOf64  = math.MaxUint64
	mostFloat = math.MaxFloat64
)

// greatest is 2^127 - 1.
var greatest = api.Int{Hi: math.MaxInt64, Lo: math.MaxUint64}

// Snapshots to be written and read.

// labels tells a list of labels, name and value by turns.
func labels(l ...string) []api.Label {
	var out []api.Label
	for i := 0; i < len(l); i += 2 {
		out = append(out, api.Label{Name: l[i], Value: l[i+1]})
	}
	return out
}

func counter(name string, n uint64, l ...string) api.Value {
	return api.Value{Desc: api.Desc{Kind: api.Counter, Name: name, Labels: labels(l...)}, Total: api.Int{Lo: n}}
}

// histogram tells one of counts, index and number by turns, whose N is theirs.
func histogram(name string, total uint64, counts ...uint64) api.Value {
	v := api.Value{Desc: api.Desc{Kind: api.Histogram, Name: name}, Total: api.Int{Lo: total}}
	for i := 0; i < len(counts); i += 2 {
		v.Counts = append(v.Counts, api.Count{Index: int(counts[i]), N: counts[i+1]})
		v.N += counts[i+1]
	}
	return v
}

func summary(name string, n uint64, sum, least, most float64) api.Value {
	return api.Value{Desc: api.Desc{Kind: api.Summary, Name: name}, N: n, Sum: sum, Min: least, Max: most}
}

// helped tells a value with another help.
func helped(v api.Value, help string) api.Value {
	v.Desc.Help = help
	return v
}

// labelled tells a value with other labels, name and value by turns.
func labelled(v api.Value, l ...string) api.Value {
	v.Desc.Labels = labels(l...)
	return v
}

// of tells the snapshot of the precision 3 with these values.
func of(l ...api.Value) api.Snapshot { return api.Snapshot{Precision: 3, Values: l} }

func one[T any](r *rand.Rand, l ...T) T { return l[r.Intn(len(l))] }

// someFloat tells a finite float that often lies at an edge.
func someFloat(r *rand.Rand) float64 {
	x := math.Float64frombits(r.Uint64())
	if math.IsNaN(x) || math.IsInf(x, 0) {
		x = 1
	}
	return one(r, 0, minus, 1, -1, 0.1, 1e20, 1e21, -1e21, 1e-6, 1e-7, mostFloat, -mostFloat, 5e-324, x, r.NormFloat64(), float64(r.Int63()))
}

// someText tells a text with many letters that are escaped, or that stand in lines.
func someText(r *rand.Rand) string {
	var out strings.Builder
	for range r.Intn(7) {
		out.WriteString(one(r, "\\", "\"", "\n", "n", " ", "}", "{", ",", "=", "ü", "\U0001f600", "\r", "#", "a", "1", `le="`, "quantile", "# HELP "))
	}
	return out.String()
}

// someLabels tells labels that may be, in order.
func someLabels(r *rand.Rand) []api.Label {
	var out []api.Label
	for _, name := range []string{"A", "_", "a", "ale", "k", "le_", "xquantile", "z9"} {
		if r.Intn(4) == 0 {
			out = append(out, api.Label{Name: name, Value: someText(r)})
		}
	}
	return out
}

// fill gives a value what it may hold.
func fill(r *rand.Rand, p int, v api.Value) api.Value {
	switch v.Desc.Kind {
	case api.Counter:
		v.Total = one(r, api.Int{}, api.Int{Lo: 1}, api.Int{Lo: mostOf64}, api.Int{Hi: r.Int63(), Lo: r.Uint64()}, greatest, api.Int{Lo: r.Uint64() >> r.Intn(64)})
	case api.Histogram:
		return fillCounts(r, p, v)
	case api.Summary:
		if r.Intn(4) == 0 {
			break
		}
		v.N = one(r, 1, 2, mostOf63, 1+uint64(r.Int63())>>r.Intn(63))
		v.Sum, v.Min, v.Max = someFloat(r), someFloat(r), someFloat(r)
		if real.Compare(v.Min, v.Max) > 0 {
			v.Min, v.Max = v.Max, v.Min
		}
	}
	return v
}

// fillCounts gives a histogram counts, and a total between the least and the greatest one that they may come to.
func fillCounts(r *rand.Rand, p int, v api.Value) api.Value {
	total := new(big.Int)
	for range r.Intn(6) {
		i := one(r, 0, r.Intn(20), r.Intn(bucket.Length(p)), bucket.Length(p)-1)
		n := one(r, 1, 2, 1+uint64(r.Int63())>>r.Intn(63))
		if slices.ContainsFunc(v.Counts, func(c api.Count) bool { return c.Index == i }) || v.N+n > mostOf63 {
			continue
		}
		v.Counts = append(v.Counts, api.Count{Index: i, N: n})
		v.N += n
		low, _ := bucket.Low(p, i)
		high, _ := bucket.High(p, i)
		between := one(r, low, high, low+r.Int63n(high-low+1))
		total.Add(total, new(big.Int).Mul(new(big.Int).SetUint64(n), big.NewInt(between)))
	}
	slices.SortFunc(v.Counts, func(x, y api.Count) int { return cmp.Compare(x.Index, y.Index) })
	v.Total = narrow(total)
	return v
}

// some tells a snapshot that may be, of at most so many values.
func some(r *rand.Rand, most int) api.Snapshot {
	s := api.Snapshot{Precision: 1 + r.Intn(api.MaxPrecision), Refused: one(r, 0, 1, mostOf64, r.Uint64()>>r.Intn(64))}
	name, series := "a", map[string]bool{}
	d := api.Desc{Kind: 1 + r.Intn(3), Name: name, Help: someText(r)}
	for range r.Intn(most + 1) {
		if r.Intn(2) == 0 {
			name = name + one(r, "a", "_", ":", "0")
			if len(name) > 20 {
				name = string(rune(name[0] + 1))
			}
			d = api.Desc{Kind: 1 + r.Intn(3), Name: name, Help: someText(r)}
		}
		d.Labels = someLabels(r)
		if text := strings.Join(texts(d), "\x00"); !series[text] {
			series[text] = true
			s.Values = append(s.Values, fill(r, s.Precision, api.Value{Desc: d}))
		}
	}
	slices.SortFunc(s.Values, func(a, b api.Value) int { return slices.Compare(texts(a.Desc), texts(b.Desc)) })
	return s
}

// texts tells the name of a series, and the names and values of its labels.
func texts(d api.Desc) []string {
	out := []string{d.Name}
	for _, l := range d.Labels {
		out = append(out, l.Name, l.Value)
	}
	return out
}

// narrow tells a number as one of 128 bits.
func narrow(n *big.Int) api.Int {
	lo := new(big.Int).And(n, new(big.Int).SetUint64(mostOf64)).Uint64()
	return api.Int{Hi: new(big.Int).Rsh(n, 64).Int64(), Lo: lo}
}

// A second reader of texts, by patterns: a machine that is told line by line, and has a state for each line that may come.

const (
	namePattern  = `[a-zA-Z_:][a-zA-Z0-9_:]*`
	labelPattern = `([a-zA-Z_][a-zA-Z0-9_]*)="((?:[^"\\\n]|\\\\|\\"|\\n)*)"`
	listPattern  = labelPattern + `(?:,` + labelPattern + `)*`
)

var (
	ofHelp    = regexp.MustCompile(`^# HELP (` + namePattern + `) ((?:[^\\\n]|\\\\|\\n)*)$`)
	ofLabel   = regexp.MustCompile(labelPattern)
	ofList    = regexp.MustCompile(`^` + listPattern + `$`)
	ofSeries  = regexp.MustCompile(`^(` + namePattern + `)(?:\{(` + listPattern + `)\})?$`)
	ofWhole   = regexp.MustCompile(`^(?:0|[1-9][0-9]*)$`)
	ofInteger = regexp.MustCompile(`^(?:0|-?[1-9][0-9]*)$`)
	ofBucket  = regexp.MustCompile(`^(` + namePattern + `)_bucket\{(?:(` + listPattern + `),)?le="([^"\\]*)"\}$`)
	ofFirst   = regexp.MustCompile(`^(` + namePattern + `)\{(?:(` + listPattern + `),)?quantile="0"\}$`)
)

// state tells what becomes of the next line: the state behind it; none, if it is not of a form that may stand there.
type state func(m *machine, line string) state

type machine struct {
	s      api.Snapshot
	v      api.Value // that is being read
	list   string    // the labels of it, as they stand between braces
	high   *big.Int  // of the last bucket's line
	line   int
	first  int // the first line of v
	e      api.Errno
	mayEnd bool
}

// model tells what Parse has to.
func model(text string) (api.Snapshot, api.Errno, int) {
	if len(text) > 4194304 {
		return api.Snapshot{}, api.ErrBytes, 0
	}
	m := &machine{}
	next := state((*machine).head)
	for text != "" {
		m.line++
		line, rest, ended := strings.Cut(text, "\n")
		m.mayEnd = false
		if ended {
			next = next(m, line)
		}
		if !ended || next == nil {
			return api.Snapshot{}, api.ErrForm, m.line
		}
		if m.e != api.OK {
			return api.Snapshot{}, m.e, m.first
		}
		text = rest
	}
	if !m.mayEnd {
		return api.Snapshot{}, api.ErrForm, m.line + 1
	}
	return m.s, api.OK, 0
}

// modelWhole tells a whole number from 0 to 2^64 - 1.
func modelWhole(text string) (uint64, bool) {
	if !ofWhole.MatchString(text) {
		return 0, false
	}
	n, _ := new(big.Int).SetString(text, 10)
	return n.Uint64(), n.IsUint64()
}

// modelInteger tells a number of 128 bits.
func modelInteger(text string) (api.Int, bool) {
	if !ofInteger.MatchString(text) {
		return api.Int{}, false
	}
	n, _ := new(big.Int).SetString(text, 10)
	// The numbers from -2^127 to 2^127 - 1 are those that have at most 127 bits, when 1 is added to those below 0.
	bits := new(big.Int).Set(n)
	if n.Sign() < 0 {
		bits.Add(bits, big.NewInt(1))
	}
	if bits.BitLen() > 127 {
		return api.Int{}, false
	}
	return narrow(n), true
}

// modelFloat tells a float, by what its text may be made of.
func modelFloat(text string) (float64, bool) {
	switch text {
	case "NaN":
		return math.NaN(), true
	case "+Inf":
		return math.Inf(1), true
	case "-Inf":
		return math.Inf(-1), true
	}
	x, err := strconv.ParseFloat(text, 64)
	return x, err == nil && !math.IsNaN(x) && !math.IsInf(x, 0) && real.Print(x) == text
}

// isName tells whether what the pattern of names takes is one.
func isName(s string) bool {
	return len(s) <= 64 && !strings.HasSuffix(s, "_bucket") && !strings.HasSuffix(s, "_sum") && !strings.HasSuffix(s, "_count")
}

// modelLabels tells the labels of what stands between braces.
func modelLabels(list string) ([]api.Label, bool) {
	if list == "" {
		return nil, true
	}
	if !ofList.MatchString(list) {
		return nil, false
	}
	var out []api.Label
	for _, found := range ofLabel.FindAllStringSubmatch(list, -1) {
		l := api.Label{Name: found[1], Value: strings.NewReplacer(`\\`, `\`, `\"`, `"`, `\n`, "\n").Replace(found[2])}
		taken := l.Name == "le" || l.Name == "quantile" || strings.HasPrefix(l.Name, "__")
		rises := len(out) == 0 || out[len(out)-1].Name < l.Name
		if taken || len(l.Name) > 64 || !rises || len(l.Value) > 1024 || !utf8.ValidString(l.Value) {
			return nil, false
		}
		out = append(out, l)
	}
	return out, len(out) <= 16
}

// cutNumber parts a line at its last blank.
func cutNumber(line string) (series, number string, ok bool) {
	at := strings.LastIndexByte(line, ' ')
	if at < 0 {
		return "", "", false
	}
	return line[:at], line[at+1:], true
}

// is tells whether a line is of the series that ends so, with one label more or none, and its number.
func (m *machine) is(line, ending, more string) (string, bool) {
	all := m.list
	if all != "" && more != "" {
		all += ","
	}
	all += more
	if all != "" {
		all = "{" + all + "}"
	}
	return strings.CutPrefix(line, m.v.Desc.Name+ending+all+" ")
}

func (m *machine) head(line string) state {
	digits, is := strings.CutPrefix(line, "# gnomon ")
	p := slices.Index(strings.Fields("0 1 2 3 4 5 6 7 8 9 10 11 12 13 14"), digits)
	if !is || p < 1 {
		return nil
	}
	m.s.Precision = p
	return (*machine).refused
}

func (m *machine) refused(line string) state {
	digits, is := strings.CutPrefix(line, "# refused ")
	n, ok := modelWhole(digits)
	if !is || !ok {
		return nil
	}
	m.s.Refused = n
	m.mayEnd = true
	return (*machine).help
}

func (m *machine) help(line string) state {
	found := ofHelp.FindStringSubmatch(line)
	if found == nil || !isName(found[1]) || found[1] == m.v.Desc.Name {
		return nil
	}
	m.v.Desc = api.Desc{Name: found[1], Help: strings.NewReplacer(`\\`, `\`, `\n`, "\n").Replace(found[2])}
	return (*machine).kind
}

func (m *machine) kind(line string) state {
	for i, word := range []string{"", "counter", "histogram", "summary"} {
		if i > 0 && line == "# TYPE "+m.v.Desc.Name+" "+word {
			m.v.Desc.Kind = i
			return (*machine).begin
		}
	}
	return nil
}

// begin is told the first line of a value.
func (m *machine) begin(line string) state {
	m.v = api.Value{Desc: m.v.Desc}
	m.list, m.high, m.first = "", big.NewInt(-1), m.line
	series, number, ok := cutNumber(line)
	if !ok {
		return nil
	}
	name := m.v.Desc.Name
	pattern := ofSeries
	next := state((*machine).total)
	switch rest, sum := strings.CutPrefix(series, name+"_sum"); {
	case m.v.Desc.Kind == api.Histogram:
		pattern, next = ofBucket, (*machine).bucket
	case m.v.Desc.Kind == api.Summary && sum:
		series, next = name+rest, (*machine).sumOfNothing
	case m.v.Desc.Kind == api.Summary:
		pattern, next = ofFirst, (*machine).least
	}
	found := pattern.FindStringSubmatch(series)
	if found == nil || found[1] != name {
		return nil
	}
	if m.v.Desc.Labels, ok = modelLabels(found[2]); !ok {
		return nil
	}
	m.list = found[2]
	if m.v.Desc.Kind == api.Histogram {
		return next(m, line)
	}
	return next(m, number)
}

// behind is told a line that may begin a value or a family.
func (m *machine) behind(line string) state {
	if strings.HasPrefix(line, "# HELP ") {
		return m.help(line)
	}
	return m.begin(line)
}

// end lays the value that was read behind the others.
func (m *machine) end() state {
	m.s.Values = append(m.s.Values, m.v)
	e, at := snap.Check(m.s)
	if e != api.OK && at != len(m.s.Values)-1 {
		panic("a value that was checked is wrong")
	}
	m.e, m.mayEnd = e, true
	return (*machine).behind
}

func (m *machine) total(number string) state {
	n, ok := modelInteger(number)
	if !ok {
		return nil
	}
	m.v.Total = n
	return m.end()
}

// bucket is told a line of a bucket, or of +Inf.
func (m *machine) bucket(line string) state {
	if number, is := m.is(line, "_bucket", `le="+Inf"`); is {
		if number != strconv.FormatUint(m.v.N, 10) {
			return nil
		}
		return (*machine).sum
	}
	series, number, _ := cutNumber(line)
	found := ofBucket.FindStringSubmatch(series)
	if found == nil || found[1] != m.v.Desc.Name || found[2] != m.list {
		return nil
	}
	digits := found[len(found)-1]
	n, ok := modelWhole(number)
	if !ok || n <= m.v.N || !ofWhole.MatchString(digits) {
		return nil
	}
	high, _ := new(big.Int).SetString(digits, 10)
	if high.Cmp(m.high) <= 0 {
		return nil
	}
	i := bucketOf(m.s.Precision, high)
	if i < 0 {
		return nil
	}
	m.v.Counts = append(m.v.Counts, api.Count{Index: i, N: n - m.v.N})
	m.v.N, m.high = n, high
	return (*machine).bucket
}

// bucketOf tells the bucket of which a number is the greatest value; -1, if there is none. From 2^p on those are the numbers whose bits behind the first p + 1 are all 1: so the next number's are all 0.
func bucketOf(p int, high *big.Int) int {
	if high.BitLen() > 63 {
		return -1
	}
	if high.BitLen() <= p {
		return int(high.Int64())
	}
	next := new(big.Int).Add(high, big.NewInt(1))
	k := high.BitLen() - 1 - p
	if int(next.TrailingZeroBits()) < k {
		return -1
	}
	return k<<p + int(new(big.Int).Rsh(high, uint(k)).Int64())
}

func (m *machine) sum(line string) state {
	number, is := m.is(line, "_sum", "")
	n, ok := modelInteger(number)
	if !is || !ok {
		return nil
	}
	m.v.Total = n
	return (*machine).count
}

// count is told how many values there are, where that is known.
func (m *machine) count(line string) state {
	if number, is := m.is(line, "_count", ""); !is || number != strconv.FormatUint(m.v.N, 10) {
		return nil
	}
	return m.end()
}

func (m *machine) least(number string) state {
	x, ok := modelFloat(number)
	if !ok {
		return nil
	}
	m.v.Min = x
	return (*machine).most
}

func (m *machine) most(line string) state {
	number, is := m.is(line, "", `quantile="1"`)
	x, ok := modelFloat(number)
	if !is || !ok {
		return nil
	}
	m.v.Max = x
	return (*machine).floats
}

// floats is told the sum of a summary that has values.
func (m *machine) floats(line string) state {
	number, is := m.is(line, "_sum", "")
	x, ok := modelFloat(number)
	if !is || !ok {
		return nil
	}
	m.v.Sum = x
	return (*machine).many
}

// many is told how many values a summary has that has some.
func (m *machine) many(line string) state {
	number, is := m.is(line, "_count", "")
	n, ok := modelWhole(number)
	if !is || !ok || n == 0 {
		return nil
	}
	m.v.N = n
	return m.end()
}

func (m *machine) sumOfNothing(number string) state {
	x, ok := modelFloat(number)
	if !ok {
		return nil
	}
	m.v.Sum = x
	return (*machine).count
}
