package days_test

import (
	"math/rand"
	"regexp"
	"strconv"
	"strings"
	"testing"
	"time"

	"chattel/api"
	"chattel/days"
)

const (
	most   = 1<<63 - 1
	least  = -1 << 63
	months = 2400
)

// date is one by the library's calendar.
type date struct {
	year, month, date int
}

// calendar are the dates of all days, and the days of all dates.
type calendar struct {
	dates []date
	days  map[date]int
}

func newCalendar() calendar {
	c := calendar{days: map[date]int{}}
	for t := time.Date(2000, 1, 1, 0, 0, 0, 0, time.UTC); t.Year() < 2200; t = t.AddDate(0, 0, 1) {
		d := date{t.Year(), int(t.Month()), t.Day()}
		c.days[d] = len(c.dates)
		c.dates = append(c.dates, d)
	}
	return c
}

// day is what has to come of a date.
func (c calendar) day(d date) (int, api.Errno) {
	day, there := c.days[d]
	if !there {
		return 0, api.ErrDay
	}
	return day, api.OK
}

// bounds are a month's, found by going through all days.
func (c calendar) bounds() [months][2]int {
	var l [months][2]int
	for day, d := range c.dates {
		month := (d.year-2000)*12 + d.month - 1
		if d.date == 1 {
			l[month][0] = day
		}
		l[month][1] = day
	}
	return l
}

// pad is a number of so many digits.
func pad(n, digits int) string {
	s := strconv.Itoa(n)
	return strings.Repeat("0", max(0, digits-len(s))) + s
}

func text(d date) string {
	return pad(d.year, 4) + "-" + pad(d.month, 2) + "-" + pad(d.date, 2)
}

// none are numbers of no day.
func none() []int {
	return []int{
		-1, -2, -366, api.MaxDay + 1, api.MaxDay + 2, 73414, 1 << 32, 1<<32 + 60, -1 << 32, -1<<32 + 60,
		1 << 62, -1 << 62, most, most - 1, least, least + 1,
	}
}

// great are numbers that wrap round, or nearly so.
func great() []int {
	return []int{
		most, most - 1, most - 2398, most - 2399, least, least + 1, least + 2, least + 2399, 1 << 62, -1 << 62,
		1<<62 + 1, 1 << 61, 1 << 60, -1 << 60, 1 << 32, 1<<32 + 1, -1 << 32, 73049, -73049,
	}
}

func TestCalendar(t *testing.T) {
	c := newCalendar()
	if len(c.dates) != api.MaxDay+1 || len(c.days) != api.MaxDay+1 {
		t.Fatalf("%d days, %d dates", len(c.dates), len(c.days))
	}
}

// P4.1

func TestDateOfAllDays(t *testing.T) {
	for day, d := range newCalendar().dates {
		if y, m, n, e := days.Date(day); (date{y, m, n}) != d || e != api.OK {
			t.Errorf("Date(%d): %d, %d, %d, %v; want %v", day, y, m, n, e, d)
		}
	}
}

func TestNoDay(t *testing.T) {
	for _, day := range none() {
		if y, m, n, e := days.Date(day); y != 0 || m != 0 || n != 0 || e != api.ErrDay {
			t.Errorf("Date(%d): %d, %d, %d, %v", day, y, m, n, e)
		}
		if s, e := days.Print(day); s != "" || e != api.ErrDay {
			t.Errorf("Print(%d): %q, %v", day, s, e)
		}
	}
}

func checkDay(t *testing.T, c calendar, d date) {
	t.Helper()
	want, wantE := c.day(d)
	if day, e := days.Day(d.year, d.month, d.date); day != want || e != wantE {
		t.Errorf("Day(%d, %d, %d): %d, %v; want %d, %v", d.year, d.month, d.date, day, e, want, wantE)
	}
}

func TestDay(t *testing.T) {
	for _, c := range []struct {
		d    date
		want int
		e    api.Errno
	}{
		{date{2000, 1, 1}, 0, api.OK},
		{date{2000, 2, 29}, 59, api.OK},
		{date{2000, 3, 1}, 60, api.OK},
		{date{2000, 12, 31}, 365, api.OK},
		{date{2001, 1, 1}, 366, api.OK},
		{date{2004, 2, 29}, 1520, api.OK},
		{date{2100, 2, 28}, 36583, api.OK},
		{date{2100, 3, 1}, 36584, api.OK},
		{date{2199, 12, 31}, 73048, api.OK},
		{date{2001, 2, 29}, 0, api.ErrDay},
		{date{2100, 2, 29}, 0, api.ErrDay},
		{date{2000, 2, 30}, 0, api.ErrDay},
		{date{2000, 4, 31}, 0, api.ErrDay},
		{date{2000, 1, 32}, 0, api.ErrDay},
		{date{2000, 1, 0}, 0, api.ErrDay},
		{date{2000, 2, 0}, 0, api.ErrDay},
		{date{2000, 3, -1}, 0, api.ErrDay},
		{date{2000, 0, 1}, 0, api.ErrDay},
		{date{2000, 13, 1}, 0, api.ErrDay},
		{date{2001, 0, 1}, 0, api.ErrDay},
		{date{2001, -11, 1}, 0, api.ErrDay},
		{date{1999, 13, 1}, 0, api.ErrDay},
		{date{1999, 12, 31}, 0, api.ErrDay},
		{date{1999, 12, 32}, 0, api.ErrDay},
		{date{2200, 1, 1}, 0, api.ErrDay},
		{date{2200, 0, 1}, 0, api.ErrDay},
		{date{2199, 12, 32}, 0, api.ErrDay},
		{date{0, 0, 0}, 0, api.ErrDay},
		{date{-2000, -1, -1}, 0, api.ErrDay},
	} {
		if day, e := days.Day(c.d.year, c.d.month, c.d.date); day != c.want || e != c.e {
			t.Errorf("Day of %v: %d, %v; want %d, %v", c.d, day, e, c.want, c.e)
		}
	}
}

func TestDayOfAllDatesAboutThoseThatAre(t *testing.T) {
	c := newCalendar()
	for year := 1990; year < 2210; year++ {
		for month := -13; month <= 26; month++ {
			for n := -32; n <= 64; n++ {
				checkDay(t, c, date{year, month, n})
			}
		}
	}
}

func TestDayOfDatesThatWrapRound(t *testing.T) {
	c := newCalendar()
	numbers := great()
	for _, n := range []int{-1, 0, 1, 2, 12, 13, 28, 29, 31, 32, 1999, 2000, 2001, 2100, 2199, 2200} {
		numbers = append(numbers, n)
		for _, far := range great() {
			numbers = append(numbers, n+far, n-far)
		}
	}
	for _, year := range numbers {
		for _, month := range numbers {
			checkDay(t, c, date{year, month, 1})
			checkDay(t, c, date{year, 1, month})
			checkDay(t, c, date{2000, year, month})
			checkDay(t, c, date{2004, year, month})
		}
	}
	// Twelve times what is put on the year comes round to 0.
	for _, far := range []int{1 << 62, -1 << 62} {
		checkDay(t, c, date{2000 + far, 1, 1})
		checkDay(t, c, date{2007 + far, 6, 5})
	}
	// What is put on the year is taken off the months.
	for k := range 1000 {
		checkDay(t, c, date{2000 + k, 1 - 12*k, 1})
		checkDay(t, c, date{2000 - k, 1 + 12*k, 1})
		checkDay(t, c, date{2000, 1, 1 + k*73049})
		checkDay(t, c, date{2000 + most/12 + k, 1 - most/12*12 - 12*k, 1})
	}
}

func TestPrintOfAllDays(t *testing.T) {
	for day, d := range newCalendar().dates {
		if s, e := days.Print(day); s != text(d) || e != api.OK {
			t.Errorf("Print(%d): %q, %v; want %q", day, s, e, text(d))
		}
	}
}

func TestParse(t *testing.T) {
	for _, c := range []struct {
		e api.Errno
		l []string
	}{
		{api.ErrForm, []string{
			"", " ", "-", "--", "2000", "2000-01", "2000-01-", "2000-01-1", "2000-1-01", "200-01-01", "2000-01-011",
			"02000-01-01", "20000101", "2000/01/01", "2000-01/01", "2000.01.01", "2000 01 01", "01-01-2000", "2000-01-01 ",
			" 2000-01-01", "2000-01-0x", "2000-01-0 ", "2000-01- 1", "2000-01-+1", "2000-01--1", "2000--1-01",
			"+200-01-01", "-200-01-01", "2e03-01-01", "0x20-01-01", "2_00-01-01", "----------", "0000000000",
			"2000-001-1", "2000-1-001", "20000-1-01", "200-001-01", "2000-01-01\n", "2000-01-0\n", "2000-01-\x00\x00",
			"\xff000-01-01", "2000-01-0\xb2", "２00-01-01", "200٠-01-01", "200٠-01-0", "2000‐01-01", "2000‐01-",
			"99999-99-99", "2000-13-1", "1999-12-3x", "2000-02-3o", strings.Repeat("2000-01-01", 1000),
		}},
		{api.ErrDay, []string{
			"1999-12-31", "2200-01-01", "2000-00-01", "2000-13-01", "2000-01-00", "2000-01-32", "2000-02-30",
			"2001-02-29", "2100-02-29", "2000-04-31", "2000-06-31", "2000-09-31", "2000-11-31", "0000-00-00",
			"0000-01-01", "9999-12-31", "9999-99-99", "2000-99-01", "2000-01-99", "1900-02-29", "2400-02-29",
		}},
	} {
		for _, s := range c.l {
			if day, e := days.Parse(s); day != 0 || e != c.e {
				t.Errorf("Parse(%q): %d, %v; want %v", s, day, e, c.e)
			}
		}
	}
	for s, want := range map[string]int{
		"2000-01-01": 0, "2000-02-29": 59, "2000-03-01": 60, "2100-03-01": 36584, "2199-12-31": 73048,
	} {
		if day, e := days.Parse(s); day != want || e != api.OK {
			t.Errorf("Parse(%q): %d, %v; want %d", s, day, e, want)
		}
	}
}

// parser tells what Parse has to answer, by the form of texts.
type parser struct {
	calendar
	form *regexp.Regexp
}

func newParser() parser {
	return parser{newCalendar(), regexp.MustCompile(`^([0-9]{4})-([0-9]{2})-([0-9]{2})$`)}
}

func (p parser) check(t *testing.T, s string) {
	t.Helper()
	want, wantE := 0, api.ErrForm
	if m := p.form.FindStringSubmatch(s); m != nil {
		var parts [3]int
		for i := range parts {
			parts[i], _ = strconv.Atoi(m[i+1])
		}
		want, wantE = p.day(date{parts[0], parts[1], parts[2]})
	}
	if day, e := days.Parse(s); day != want || e != wantE {
		t.Errorf("Parse(%q): %d, %v; want %d, %v", s, day, e, want, wantE)
	}
}

func TestParseOfAllMonthsAndDates(t *testing.T) {
	p := newParser()
	for _, year := range []int{0, 1, 999, 1999, 2000, 2001, 2004, 2099, 2100, 2104, 2199, 2200, 2400, 9999} {
		for month := range 100 {
			for n := range 100 {
				p.check(t, text(date{year, month, n}))
			}
		}
	}
	for year := range 10000 {
		for _, rest := range []string{"-01-01", "-02-28", "-02-29", "-12-31", "-12-32", "-00-01", "-1-01", "/01/01"} {
			p.check(t, pad(year, 4)+rest)
		}
	}
}

// TestParseOfSpoiltTexts leaves out, doubles, puts in and changes bytes of texts that may be.
func TestParseOfSpoiltTexts(t *testing.T) {
	p := newParser()
	for _, s := range []string{"2000-01-01", "2000-02-29", "2010-10-10", "2104-02-29", "2199-12-31", "2001-02-29"} {
		for i := range len(s) {
			p.check(t, s[:i])
			p.check(t, s[i:])
			p.check(t, s[:i]+s[i+1:])
			p.check(t, s[:i]+s[i:i+1]+s[i:])
			for b := range 256 {
				put := string([]byte{byte(b)})
				p.check(t, s[:i]+put+s[i:])
				p.check(t, s[:i]+put+s[i+1:])
				p.check(t, s+put)
				for _, two := range []int{(i + 1) % 10, (i + 5) % 10} {
					changed := []byte(s)
					changed[i], changed[two] = byte(b), changed[i]
					p.check(t, string(changed))
				}
			}
		}
	}
}

func TestParseOfTextsOfFewBytes(t *testing.T) {
	p := newParser()
	r := rand.New(rand.NewSource(1))
	for _, letters := range []string{"012-", "0123456789", "2-", "0129-/ +"} {
		for range 20000 {
			s := []byte("2000-01-01")
			for range r.Intn(6) {
				s[r.Intn(len(s))] = letters[r.Intn(len(letters))]
			}
			p.check(t, string(s))
			p.check(t, string(s[:r.Intn(len(s))]))
		}
	}
}

// P4.2

func TestMonthOfAllDays(t *testing.T) {
	for day, d := range newCalendar().dates {
		want := (d.year-2000)*12 + d.month - 1
		if month, e := days.Month(day); month != want || e != api.OK {
			t.Errorf("Month(%d): %d, %v; want %d", day, month, e, want)
		}
	}
}

func TestBoundsOfAllMonths(t *testing.T) {
	for month, want := range newCalendar().bounds() {
		if first, last, e := days.Bounds(month); first != want[0] || last != want[1] || e != api.OK {
			t.Errorf("Bounds(%d): %d, %d, %v; want %v", month, first, last, e, want)
		}
	}
}

func TestBoundsOfNoMonth(t *testing.T) {
	for _, month := range append(great(), -1, -2, -12, -2400, 2400, 2401, 2411, 2412, 4800) {
		if first, last, e := days.Bounds(month); first != 0 || last != 0 || e != api.ErrRange {
			t.Errorf("Bounds(%d): %d, %d, %v", month, first, last, e)
		}
	}
}

func TestWeekdayOfAllDays(t *testing.T) {
	for day, d := range newCalendar().dates {
		sundayFirst := time.Date(d.year, time.Month(d.month), d.date, 0, 0, 0, 0, time.UTC).Weekday()
		want := (int(sundayFirst) + 6) % 7
		if n, e := days.Weekday(day); n != want || e != api.OK {
			t.Errorf("Weekday(%d): %d, %v; want %d", day, n, e, want)
		}
	}
	// A Saturday, and the Monday behind it.
	for day, want := range map[int]int{0: 5, 1: 6, 2: 0, 8: 6, 9: 0} {
		if n, e := days.Weekday(day); n != want || e != api.OK {
			t.Errorf("Weekday(%d): %d, %v; want %d", day, n, e, want)
		}
	}
}

func TestMonthAndWeekdayOfNoDay(t *testing.T) {
	for _, day := range none() {
		if n, e := days.Month(day); n != 0 || e != api.ErrDay {
			t.Errorf("Month(%d): %d, %v", day, n, e)
		}
		if n, e := days.Weekday(day); n != 0 || e != api.ErrDay {
			t.Errorf("Weekday(%d): %d, %v", day, n, e)
		}
	}
}

// P4.3

func TestMonths(t *testing.T) {
	for _, c := range []struct {
		from string
		n    int
		want string
	}{
		{"2000-01-31", 1, "2000-02-29"},
		{"2000-01-30", 1, "2000-02-29"},
		{"2000-01-29", 1, "2000-02-29"},
		{"2000-01-28", 1, "2000-02-28"},
		{"2000-01-31", 13, "2001-02-28"},
		{"2000-01-31", 3, "2000-04-30"},
		{"2000-01-31", 2, "2000-03-31"},
		{"2000-01-31", 1201, "2100-02-28"},
		{"2000-02-29", 12, "2001-02-28"},
		{"2000-02-29", 48, "2004-02-29"},
		{"2000-02-29", 1200, "2100-02-28"},
		{"2000-02-29", 1, "2000-03-29"},
		{"2000-03-31", -1, "2000-02-29"},
		{"2001-03-31", -1, "2001-02-28"},
		{"2000-03-01", -1, "2000-02-01"},
		{"2000-12-31", -11, "2000-01-31"},
		{"2000-12-31", 1, "2001-01-31"},
		{"2000-01-16", 0, "2000-01-16"},
		{"2000-01-01", 2399, "2199-12-01"},
		{"2000-01-31", 2399, "2199-12-31"},
		{"2199-12-31", -2399, "2000-01-31"},
		{"2199-12-31", -2398, "2000-02-29"},
		{"2199-12-31", 0, "2199-12-31"},
	} {
		from, e := days.Parse(c.from)
		want, f := days.Parse(c.want)
		if day, g := days.Months(from, c.n); day != want || e != api.OK || f != api.OK || g != api.OK {
			t.Errorf("Months of %s, %d: %d, %v; want %s", c.from, c.n, day, g, c.want)
		}
	}
	if day, e := days.Months(30, 1); day != 59 || e != api.OK {
		t.Errorf("Months(30, 1): %d, %v", day, e)
	}
}

func TestMonthsOfNoDayOrNoMonth(t *testing.T) {
	check := func(day, n int) {
		t.Helper()
		if out, e := days.Months(day, n); out != 0 || e != api.ErrDay {
			t.Errorf("Months(%d, %d): %d, %v", day, n, out, e)
		}
	}
	for _, day := range none() {
		for _, n := range append(great(), -2399, -1, 0, 1, 2399) {
			check(day, n)
		}
	}
	for _, n := range great() {
		for _, day := range []int{0, 1, 30, 31, 59, 60, 365, 366, 36584, 73017, 73018, 73048} {
			check(day, n)
		}
	}
	for _, c := range [][2]int{{0, -1}, {30, -1}, {31, -2}, {0, 2400}, {31, 2399}, {73018, 1}, {73048, 1}, {73017, 2}, {73048, -2400}} {
		check(c[0], c[1])
	}
}

// TestMonthsAgainstCalendar goes a date down from that of the day, till there is such a one.
func TestMonthsAgainstCalendar(t *testing.T) {
	c := newCalendar()
	check := func(day, n int) {
		month := (c.dates[day].year-2000)*12 + c.dates[day].month - 1 + n
		want, wantE := 0, api.ErrDay
		if month >= 0 && month < months {
			d := date{2000 + month/12, month%12 + 1, c.dates[day].date}
			for want, wantE = c.day(d); wantE != api.OK; want, wantE = c.day(d) {
				d.date--
			}
		}
		if out, e := days.Months(day, n); out != want || e != wantE {
			t.Errorf("Months(%d, %d): %d, %v; want %d, %v", day, n, out, e, want, wantE)
		}
	}
	for day := range c.dates {
		for _, n := range []int{-13, -12, -1, 0, 1, 2, 12, 13, 48, 1200} {
			check(day, n)
		}
	}
	for day := 0; day < len(c.dates); day += 613 {
		for n := -2405; n <= 2405; n++ {
			check(day, n)
		}
	}
}

// P4.4

func TestDayAndDateUndoEachOther(t *testing.T) {
	for day := range api.MaxDay + 1 {
		y, m, n, e := days.Date(day)
		back, f := days.Day(y, m, n)
		if back != day || e != api.OK || f != api.OK {
			t.Errorf("Date(%d): %d, %d, %d, %v; Day of it: %d, %v", day, y, m, n, e, back, f)
		}
	}
	there := 0
	for y := 1999; y <= 2200; y++ {
		for m := range 14 {
			for n := range 33 {
				day, e := days.Day(y, m, n)
				if e != api.OK {
					continue
				}
				there++
				if a, b, c, f := days.Date(day); a != y || b != m || c != n || f != api.OK {
					t.Errorf("Day(%d, %d, %d): %d; Date of it: %d, %d, %d, %v", y, m, n, day, a, b, c, f)
				}
			}
		}
	}
	if there != api.MaxDay+1 {
		t.Errorf("%d dates", there)
	}
}

func TestEachDayIsOneBehindTheOneAhead(t *testing.T) {
	ahead := -1
	for y := 2000; y < 2200; y++ {
		for m := 1; m <= 12; m++ {
			for n := 1; n <= 31; n++ {
				day, e := days.Day(y, m, n)
				if e != api.OK {
					continue
				}
				if day != ahead+1 {
					t.Errorf("Day(%d, %d, %d): %d, behind %d", y, m, n, day, ahead)
				}
				ahead = day
			}
		}
	}
	if ahead != api.MaxDay {
		t.Errorf("the last day is %d", ahead)
	}
}

func TestPrintAndParseUndoEachOther(t *testing.T) {
	ahead := ""
	for day := range api.MaxDay + 1 {
		s, e := days.Print(day)
		back, f := days.Parse(s)
		if back != day || e != api.OK || f != api.OK {
			t.Errorf("Print(%d): %q, %v; Parse of it: %d, %v", day, s, e, back, f)
		}
		// Days' texts are in the days' order.
		if s <= ahead {
			t.Errorf("Print(%d): %q, behind %q", day, s, ahead)
		}
		ahead = s
	}
	read := 0
	for year := 1998; year < 2203; year++ {
		for month := range 20 {
			for n := range 40 {
				s := text(date{year, month, n})
				day, e := days.Parse(s)
				if e != api.OK {
					continue
				}
				read++
				if told, f := days.Print(day); told != s || f != api.OK {
					t.Errorf("Parse(%q): %d; Print of it: %q, %v", s, day, told, f)
				}
			}
		}
	}
	if read != api.MaxDay+1 {
		t.Errorf("%d texts were read", read)
	}
}

func TestDaysAreWithinTheirMonths(t *testing.T) {
	for day := range api.MaxDay + 1 {
		month, e := days.Month(day)
		first, last, f := days.Bounds(month)
		if day < first || day > last || e != api.OK || f != api.OK {
			t.Errorf("Month(%d): %d, %v; Bounds of it: %d, %d, %v", day, month, e, first, last, f)
		}
	}
	next := 0
	for month := range months {
		first, last, e := days.Bounds(month)
		if first != next || e != api.OK {
			t.Errorf("Bounds(%d): %d, %d, %v; want %d first", month, first, last, e, next)
		}
		for day := first; day <= last; day++ {
			if m, f := days.Month(day); m != month || f != api.OK {
				t.Errorf("Month(%d): %d, %v; want %d", day, m, f, month)
			}
		}
		next = last + 1
	}
	if next != api.MaxDay+1 {
		t.Errorf("the months end with day %d", next-1)
	}
}
