package session_test

import (
	"math"
	"math/rand"
	"slices"
	"testing"

	"curfew/api"
	"curfew/session"
)

const (
	clients   = 3
	lastSeq   = 1 << 40
	mostNames = 12
)

// What an asking is, by the chapter's numbers.
const (
	fresh = 1
	old   = 2
	wrong = 3
)

// names are so many names: first, and those that follow it.
func names(n int, first uint32) []uint32 {
	var l []uint32
	for i := range n {
		l = append(l, first+uint32(i))
	}
	return l
}

// listed is a reply of these names.
func listed(l ...uint32) api.Reply { return api.Reply{Names: l} }

// refused is a reply of that error.
func refused(e api.Errno) api.Reply { return api.Reply{Err: e} }

// row is a row of that client.
func row(client int, seq uint64, r api.Reply) api.Session {
	return api.Session{Client: client, Seq: seq, Reply: r}
}

// of are sessions of these rows.
func of(l ...api.Session) api.Sessions { return api.Sessions{Rows: l} }

// full are sessions of all clients.
func full() api.Sessions {
	return of(row(1, 7, listed(3, 9, 300)), row(2, lastSeq, refused(api.ErrFull)), row(3, 1, listed(names(mostNames, 1)...)))
}

// mayReply tells whether the reply may be, by the chapter's words.
func mayReply(r api.Reply) bool {
	if r.Err < 0 || len(r.Names) > mostNames || r.Err != 0 && len(r.Names) != 0 {
		return false
	}
	for i, n := range r.Names {
		if n == 0 || i > 0 && r.Names[i-1] >= n {
			return false
		}
	}
	return true
}

// may tells whether the sessions may be, by the chapter's words.
func may(s api.Sessions) bool {
	last := 0
	for _, r := range s.Rows {
		if r.Client <= last || r.Client > clients || r.Seq == 0 || r.Seq > lastSeq || !mayReply(r.Reply) {
			return false
		}
		last = r.Client
	}
	return true
}

// equalReply tells whether both replies are the same.
func equalReply(a, b api.Reply) bool { return a.Err == b.Err && slices.Equal(a.Names, b.Names) }

// equalRow tells whether both rows are the same.
func equalRow(a, b api.Session) bool {
	return a.Client == b.Client && a.Seq == b.Seq && equalReply(a.Reply, b.Reply)
}

// equal tells whether both sessions are the same.
func equal(a, b api.Sessions) bool { return slices.EqualFunc(a.Rows, b.Rows, equalRow) }

// deep are sessions of new memory.
func deep(s api.Sessions) api.Sessions {
	l := slices.Clone(s.Rows)
	for i := range l {
		l[i].Reply.Names = slices.Clone(l[i].Reply.Names)
	}
	return of(l...)
}

// ofOf is what Of has to answer, by the chapter's words.
func ofOf(s api.Sessions, client int) api.Session {
	if !may(s) || client < 1 || client > clients {
		return api.Session{}
	}
	for _, r := range s.Rows {
		if r.Client == client {
			return r
		}
	}
	return api.Session{Client: client}
}

// judgeOf is what Judge has to answer.
func judgeOf(s api.Sessions, client int, seq uint64) (int, api.Errno) {
	last := ofOf(s, client).Seq
	switch {
	case !may(s):
		return 0, api.ErrSession
	case client < 1 || client > clients || seq < 1 || seq > lastSeq:
		return 0, api.ErrArg
	case seq == last+1:
		return fresh, api.OK
	case seq == last:
		return old, api.OK
	}
	return wrong, api.OK
}

// keepOf is what Keep has to answer.
func keepOf(s api.Sessions, client int, seq uint64, r api.Reply) (api.Sessions, api.Errno) {
	how, e := judgeOf(s, client, seq)
	switch {
	case e != api.OK:
		return api.Sessions{}, e
	case !mayReply(r):
		return api.Sessions{}, api.ErrArg
	case how != fresh:
		return api.Sessions{}, api.ErrSeq
	}
	l := slices.DeleteFunc(deep(s).Rows, func(r api.Session) bool { return r.Client == client })
	l = append(l, row(client, seq, r))
	slices.SortFunc(l, func(a, b api.Session) int { return a.Client - b.Client })
	return of(l...), api.OK
}

// holdReply holds CheckReply against what it has to answer.
func holdReply(t *testing.T, what string, r api.Reply, may bool) {
	t.Helper()
	want := api.ErrArg
	if may {
		want = api.OK
	}
	if e := session.CheckReply(r); e != want {
		t.Errorf("CheckReply, %s: %d, want %d", what, e, want)
	}
	if mayReply(r) != may {
		t.Errorf("%s: the words say %v", what, !may)
	}
}

// holdCheck holds Check against what it has to answer.
func holdCheck(t *testing.T, what string, s api.Sessions, can bool) {
	t.Helper()
	want := api.ErrSession
	if can {
		want = api.OK
	}
	if e := session.Check(s); e != want {
		t.Errorf("Check, %s: %d, want %d", what, e, want)
	}
	if may(s) != can {
		t.Errorf("%s: the words say %v", what, !can)
	}
}

// holdOf holds Of against what it has to answer.
func holdOf(t *testing.T, what string, s api.Sessions, client int) {
	t.Helper()
	if got, want := session.Of(s, client), ofOf(s, client); !equalRow(got, want) {
		t.Errorf("Of %d, %s: %+v, want %+v", client, what, got, want)
	}
}

// holdJudge holds Judge against what it has to answer.
func holdJudge(t *testing.T, what string, s api.Sessions, client int, seq uint64) {
	t.Helper()
	how, e := session.Judge(s, client, seq)
	if want, err := judgeOf(s, client, seq); how != want || e != err {
		t.Errorf("Judge %d %d, %s: %d %d, want %d %d", client, seq, what, how, e, want, err)
	}
}

// holdKeep holds Keep against what it has to answer, and tells that.
func holdKeep(t *testing.T, what string, s api.Sessions, client int, seq uint64, r api.Reply) (api.Sessions, api.Errno) {
	t.Helper()
	got, e := session.Keep(s, client, seq, r)
	want, err := keepOf(s, client, seq, r)
	if e != err || !equal(got, want) {
		t.Errorf("Keep %d %d %+v, %s: %+v %d, want %+v %d", client, seq, r, what, got, e, want, err)
	}
	return want, err
}

// wrongReplies are replies that may not be, each for one reason.
func wrongReplies() map[string]api.Reply {
	return map[string]api.Reply{
		"an error below 0":           refused(-1),
		"the least error":            refused(math.MinInt),
		"an error and a name":        {Err: api.ErrFull, Names: []uint32{7}},
		"the first error and names":  {Err: 1, Names: names(mostNames, 1)},
		"an error below 0, and name": {Err: -1, Names: []uint32{7}},
		"one name too many":          listed(names(mostNames+1, 1)...),
		"very many names":            listed(names(1<<20, 1)...),
		"the name 0":                 listed(0),
		"0 ahead of others":          listed(0, 1, 2),
		"twice one name":             listed(9, 9),
		"twice the last name":        listed(1, 2, math.MaxUint32, math.MaxUint32),
		"falling":                    listed(9, 8),
		"falling at last":            listed(1, 2, 3, 2),
		"falling to the first":       listed(5, 9, 6),
		"round and back to 0":        listed(math.MaxUint32, 0),
		"0 at last of twelve":        listed(append(names(mostNames-1, 1), 0)...),
		"falling at last of twelve":  listed(append(names(mostNames-1, 10), 10)...),
		"twice the first of twelve":  listed(append([]uint32{1}, names(mostNames-1, 1)...)...),
	}
}

// wrongSessions are sessions that may not be, each for one reason.
func wrongSessions() map[string]api.Sessions {
	change := func(do func(l []api.Session)) api.Sessions {
		s := full()
		do(s.Rows)
		return s
	}
	m := map[string]api.Sessions{
		"zero row":           of(api.Session{}),
		"no client":          of(row(0, 1, api.Reply{})),
		"a client below 0":   of(row(-1, 1, api.Reply{})),
		"the least client":   of(row(math.MinInt, 1, api.Reply{})),
		"a client too many":  of(row(4, 1, api.Reply{})),
		"the greatest one":   of(row(math.MaxInt, 1, api.Reply{})),
		"client 4 behind":    of(row(1, 1, api.Reply{}), row(4, 1, api.Reply{})),
		"client 0 ahead":     of(row(0, 1, api.Reply{}), row(1, 1, api.Reply{})),
		"nothing asked":      of(row(2, 0, api.Reply{})),
		"asked too often":    of(row(2, lastSeq+1, api.Reply{})),
		"asked most often":   of(row(2, math.MaxUint64, api.Reply{})),
		"twice one client":   of(row(2, 1, api.Reply{}), row(2, 1, api.Reply{})),
		"twice the last one": change(func(l []api.Session) { l[1].Client = 3 }),
		"twice the first":    change(func(l []api.Session) { l[1].Client = 1 }),
		"falling":            of(row(2, 1, api.Reply{}), row(1, 1, api.Reply{})),
		"the last two":       change(func(l []api.Session) { l[1], l[2] = l[2], l[1] }),
		"the outer two":      change(func(l []api.Session) { l[0], l[2] = l[2], l[0] }),
		"four rows":          of(append(full().Rows, row(4, 1, api.Reply{}))...),
		"four, the last 3":   of(append(full().Rows, row(3, 1, api.Reply{}))...),
		"zero behind":        of(append(full().Rows, api.Session{})...),
		"a last Seq of 0":    change(func(l []api.Session) { l[2].Seq = 0 }),
		"a middle Seq of 0":  change(func(l []api.Session) { l[1].Seq = 0 }),
		"a first Seq beyond": change(func(l []api.Session) { l[0].Seq = lastSeq + 1 }),
		"very many rows":     of(make([]api.Session, 1<<20)...),
	}
	for name, r := range wrongReplies() {
		for k := range clients {
			m[name+", of "+string(rune('1'+k))] = change(func(l []api.Session) { l[k].Reply = r })
		}
	}
	return m
}

// rightSessions are sessions that may be.
func rightSessions() map[string]api.Sessions {
	l := full().Rows
	return map[string]api.Sessions{
		"zero":          {},
		"empty":         of([]api.Session{}...),
		"first":         of(l[0]),
		"second":        of(l[1]),
		"third":         of(l[2]),
		"first two":     of(l[0], l[1]),
		"last two":      of(l[1], l[2]),
		"outer two":     of(l[0], l[2]),
		"all":           full(),
		"edges":         of(row(1, 1, api.Reply{}), row(2, lastSeq, refused(math.MaxInt)), row(3, lastSeq-1, listed(names(mostNames, math.MaxUint32-mostNames+1)...))),
		"just 1 each":   of(row(1, 1, refused(1)), row(2, 1, listed(1)), row(3, 1, api.Reply{})),
		"empty replies": of(row(1, 2, api.Reply{Names: []uint32{}}), row(3, 3, api.Reply{Err: 1, Names: []uint32{}})),
	}
}

// somebody are clients that there are, and others; numbers are those that may be asked with, and others.
var (
	somebody = []int{math.MinInt, -3, -2, -1, 0, 1, 2, 3, 4, 5, 1 << 20, math.MaxInt - 1, math.MaxInt}
	numbers  = []uint64{0, 1, 2, 3, 4, 5, 6, 7, 8, 9, 1<<32 + 7, lastSeq - 2, lastSeq - 1, lastSeq, lastSeq + 1, lastSeq + 2, 1 << 63, math.MaxUint64 - 1, math.MaxUint64}
)

// P12.1: replies by name.
func TestCheckReply(t *testing.T) {
	for name, r := range map[string]api.Reply{
		"zero":                   {},
		"empty":                  {Names: []uint32{}},
		"an error":               refused(api.ErrFull),
		"the first error":        refused(1),
		"the greatest error":     refused(math.MaxInt),
		"an error and empty":     {Err: api.ErrSeq, Names: []uint32{}},
		"a name":                 listed(7),
		"the first name":         listed(1),
		"the last name":          listed(math.MaxUint32),
		"both":                   listed(1, math.MaxUint32),
		"two":                    listed(1, 9),
		"neighbours":             listed(8, 9),
		"all but one":            listed(names(mostNames-1, 5)...),
		"as many as may be":      listed(names(mostNames, 1)...),
		"as many as may be, far": listed(names(mostNames, math.MaxUint32-mostNames+1)...),
		"beyond the half":        listed(1<<31-1, 1<<31, 1<<31+1),
	} {
		holdReply(t, name, r, true)
	}
	for name, r := range wrongReplies() {
		holdReply(t, name, r, false)
	}
}

// P12.1: any two names that stand in a reply have to rise.
func TestCheckReplyPairs(t *testing.T) {
	for a := range mostNames {
		for b := range mostNames {
			for _, n := range []uint32{0, 1, uint32(10*b + 9), uint32(10*b + 10), uint32(10*b + 11), math.MaxUint32} {
				r := api.Reply{}
				for i := range mostNames {
					r.Names = append(r.Names, uint32(10*i+10))
				}
				r.Names[a] = n
				for n := range mostNames + 1 {
					few := listed(r.Names[:n]...)
					holdReply(t, "a name changed", few, mayReply(few))
				}
			}
		}
	}
}

// P12.1: sessions by name.
func TestCheck(t *testing.T) {
	for name, s := range rightSessions() {
		holdCheck(t, name, s, true)
	}
	for name, s := range wrongSessions() {
		holdCheck(t, name, s, false)
	}
}

// P12.1: up to four rows of all clients, and some numbers and replies, each with each other.
func TestCheckMany(t *testing.T) {
	var rows []api.Session
	for client := -1; client <= clients+1; client++ {
		for _, seq := range []uint64{0, 1, lastSeq} {
			rows = append(rows, row(client, seq, listed(5)))
		}
	}
	rows = append(rows, row(1, 1, listed(0)), row(2, 1, listed(0)), row(3, 1, listed(0)))
	told := map[bool]int{}
	hold := func(l ...api.Session) {
		t.Helper()
		can := may(of(l...))
		holdCheck(t, "rows", of(l...), can)
		told[can]++
	}
	for _, a := range rows {
		hold(a)
		for _, b := range rows {
			hold(a, b)
			for _, c := range rows {
				hold(a, b, c)
				hold(a, b, c, row(3, 1, listed(5)))
				hold(row(1, 1, listed(5)), a, b, c)
			}
		}
	}
	if told[true] < 20 || told[false] < 1000 {
		t.Errorf("not of all sorts: %v", told)
	}
}

// P12.1: what differs in any part is not the same; nil and empty lists are one; what may not be is the same by its parts, too.
func TestSameReply(t *testing.T) {
	l := []api.Reply{{}, refused(1), refused(-1), refused(math.MaxInt), listed(0), listed(1), listed(2), listed(1, 2), listed(2, 1), listed(1, 3), listed(1, 2, 3), listed(1, 1), {Err: 1, Names: []uint32{1}}, {Err: 1, Names: []uint32{1, 2}}, {Err: 2, Names: []uint32{1}}, listed(names(mostNames, 1)...), listed(names(mostNames+1, 1)...), listed(names(mostNames, 2)...)}
	for i, a := range l {
		for k, b := range l {
			b.Names = slices.Clone(b.Names)
			if session.SameReply(a, b) != (i == k) {
				t.Errorf("SameReply(%+v, %+v): %v", a, b, i != k)
			}
		}
	}
	for _, e := range []api.Errno{0, 1, -1} {
		if a, b := refused(e), (api.Reply{Err: e, Names: []uint32{}}); !session.SameReply(a, b) || !session.SameReply(b, a) {
			t.Errorf("nil and empty are two, of %d", e)
		}
	}
}

// P12.1: sessions that differ in one part of one row, or in how many there are.
func TestSame(t *testing.T) {
	all := full()
	changes := map[string]func(r *api.Session){
		"client":  func(r *api.Session) { r.Client++ },
		"seq":     func(r *api.Session) { r.Seq-- },
		"far seq": func(r *api.Session) { r.Seq += 1 << 32 },
		"err":     func(r *api.Session) { r.Reply.Err++ },
		"longer":  func(r *api.Session) { r.Reply.Names = append(r.Reply.Names, math.MaxUint32) },
		"name": func(r *api.Session) {
			r.Reply.Names = append([]uint32{0}, r.Reply.Names[min(1, len(r.Reply.Names)):]...)
		},
		"zero": func(r *api.Session) { *r = api.Session{} },
	}
	for n := range clients + 1 {
		few := of(all.Rows[:n]...)
		if !session.Same(few, deep(few)) {
			t.Errorf("%d rows are not the same as themselves", n)
		}
		for k := range n {
			if less := of(all.Rows[:k]...); session.Same(few, less) || session.Same(less, few) {
				t.Errorf("%d rows are the same as %d", n, k)
			}
			for name, do := range changes {
				other := deep(few)
				do(&other.Rows[k])
				if session.Same(few, other) || session.Same(other, few) {
					t.Errorf("%d rows, %s of %d: the same", n, name, k)
				}
			}
			other := deep(few)
			for at := range other.Rows[k].Reply.Names {
				other.Rows[k].Reply.Names[at]++
				if session.Same(few, other) {
					t.Errorf("%d rows, name %d of %d: the same", n, at, k)
				}
				other.Rows[k].Reply.Names[at]--
			}
		}
	}
	turned := deep(all)
	slices.Reverse(turned.Rows)
	if session.Same(all, turned) {
		t.Error("another order is the same")
	}
	bare, empty := of(row(1, 1, api.Reply{})), of(row(1, 1, api.Reply{Names: []uint32{}}))
	if !session.Same(api.Sessions{}, api.Sessions{Rows: []api.Session{}}) || !session.Same(bare, empty) || !session.Same(empty, bare) {
		t.Error("nil and empty are two")
	}
	if session.Same(api.Sessions{}, of(api.Session{})) || session.Same(of(api.Session{}), api.Sessions{}) {
		t.Error("no row is the same as a zero one")
	}
	for name, s := range wrongSessions() {
		if !session.Same(s, deep(s)) || session.Same(s, of(s.Rows[1:]...)) || session.Same(s, of(append(slices.Clone(s.Rows), api.Session{})...)) {
			t.Errorf("Same, %s", name)
		}
	}
}

// P12.2: each client's row; of whom there is not, and of what may not be, nothing.
func TestOf(t *testing.T) {
	for _, group := range []map[string]api.Sessions{rightSessions(), wrongSessions()} {
		for name, s := range group {
			for _, client := range somebody {
				holdOf(t, name, s, client)
			}
		}
	}
	for client, want := range map[int]api.Session{1: row(1, 7, listed(3, 9, 300)), 2: row(2, lastSeq, refused(api.ErrFull)), 3: row(3, 1, listed(names(mostNames, 1)...)), 0: {}, 4: {}} {
		if got := session.Of(full(), client); !equalRow(got, want) {
			t.Errorf("Of %d: %+v", client, got)
		}
	}
	for client, want := range map[int]api.Session{1: {Client: 1}, 2: {Client: 2}, 3: {Client: 3}, 0: {}, 4: {}, -1: {}} {
		if got := session.Of(api.Sessions{}, client); !equalRow(got, want) {
			t.Errorf("Of %d, of none: %+v", client, got)
		}
	}
}

// P12.2: what an asking is, by name.
func TestJudgeNamed(t *testing.T) {
	s := of(row(1, 7, api.Reply{}), row(2, lastSeq-1, api.Reply{}), row(3, lastSeq, api.Reply{}))
	for _, q := range []struct {
		s      api.Sessions
		client int
		seq    uint64
		how    int
		err    api.Errno
	}{
		{s, 1, 1, wrong, api.OK},
		{s, 1, 6, wrong, api.OK},
		{s, 1, 7, old, api.OK},
		{s, 1, 8, fresh, api.OK},
		{s, 1, 9, wrong, api.OK},
		{s, 1, lastSeq, wrong, api.OK},
		{s, 1, 1<<32 + 8, wrong, api.OK},
		{s, 1, lastSeq + 1, 0, api.ErrArg},
		{s, 1, lastSeq + 8, 0, api.ErrArg},
		{s, 1, 0, 0, api.ErrArg},
		{s, 2, lastSeq - 2, wrong, api.OK},
		{s, 2, lastSeq - 1, old, api.OK},
		{s, 2, lastSeq, fresh, api.OK},
		{s, 3, 1, wrong, api.OK},
		{s, 3, lastSeq - 1, wrong, api.OK},
		{s, 3, lastSeq, old, api.OK},
		{s, 3, lastSeq + 1, 0, api.ErrArg},
		{s, 0, 1, 0, api.ErrArg},
		{s, 4, 1, 0, api.ErrArg},
		{s, -1, 1, 0, api.ErrArg},
		{s, 0, 0, 0, api.ErrArg},
		{api.Sessions{}, 1, 1, fresh, api.OK},
		{api.Sessions{}, 3, 1, fresh, api.OK},
		{api.Sessions{}, 3, 2, wrong, api.OK},
		{api.Sessions{}, 3, 0, 0, api.ErrArg},
		{api.Sessions{}, 3, lastSeq, wrong, api.OK},
		{api.Sessions{}, 3, math.MaxUint64, 0, api.ErrArg},
		{api.Sessions{}, 4, 1, 0, api.ErrArg},
		{of(row(2, 1, api.Reply{})), 1, 1, fresh, api.OK},
		{of(row(2, 1, api.Reply{})), 3, 1, fresh, api.OK},
		{of(row(2, 1, api.Reply{})), 3, 2, wrong, api.OK},
		{of(row(4, 1, api.Reply{})), 4, 1, 0, api.ErrSession},
		{of(row(2, 0, api.Reply{})), 2, 1, 0, api.ErrSession},
		{of(row(2, 0, api.Reply{})), 0, 0, 0, api.ErrSession},
	} {
		if how, e := session.Judge(q.s, q.client, q.seq); how != q.how || e != q.err {
			t.Errorf("Judge %d %d: %d %d, want %d %d", q.client, q.seq, how, e, q.how, q.err)
		}
	}
}

// P12.2: all clients and numbers, with all sessions; what is wrong with these is told first.
func TestJudge(t *testing.T) {
	for _, group := range []map[string]api.Sessions{rightSessions(), wrongSessions()} {
		for name, s := range group {
			if len(s.Rows) > 100 { // once is enough
				holdJudge(t, name, s, 1, 1)
				continue
			}
			for _, client := range somebody {
				for _, seq := range numbers {
					holdJudge(t, name, s, client, seq)
				}
			}
		}
	}
}

// P12.3: what is kept stands at its client's place, whoever stands there already.
func TestKeepNamed(t *testing.T) {
	told := listed(4, 8)
	l := full().Rows
	for _, q := range []struct {
		s      api.Sessions
		client int
		seq    uint64
		want   api.Sessions
	}{
		{api.Sessions{}, 1, 1, of(row(1, 1, told))},
		{api.Sessions{}, 2, 1, of(row(2, 1, told))},
		{api.Sessions{}, 3, 1, of(row(3, 1, told))},
		{of(l[0]), 1, 8, of(row(1, 8, told))},
		{of(l[0]), 2, 1, of(l[0], row(2, 1, told))},
		{of(l[0]), 3, 1, of(l[0], row(3, 1, told))},
		{of(l[1]), 1, 1, of(row(1, 1, told), l[1])},
		{of(l[1]), 3, 1, of(l[1], row(3, 1, told))},
		{of(l[2]), 1, 1, of(row(1, 1, told), l[2])},
		{of(l[2]), 2, 1, of(row(2, 1, told), l[2])},
		{of(l[2]), 3, 2, of(row(3, 2, told))},
		{of(l[0], l[1]), 3, 1, of(l[0], l[1], row(3, 1, told))},
		{of(l[0], l[2]), 2, 1, of(l[0], row(2, 1, told), l[2])},
		{of(l[1], l[2]), 1, 1, of(row(1, 1, told), l[1], l[2])},
		{full(), 1, 8, of(row(1, 8, told), l[1], l[2])},
		{full(), 3, 2, of(l[0], l[1], row(3, 2, told))},
		{of(l[0], row(2, lastSeq-1, listed(1)), l[2]), 2, lastSeq, of(l[0], row(2, lastSeq, told), l[2])},
	} {
		got, e := session.Keep(q.s, q.client, q.seq, told)
		if e != api.OK || !equal(got, q.want) {
			t.Errorf("Keep %d %d of %+v: %+v %d, want %+v", q.client, q.seq, q.s, got, e, q.want)
		}
	}
	// The last number is asked once; none comes behind it.
	for _, seq := range []uint64{lastSeq, lastSeq - 1, 1} {
		if got, e := session.Keep(full(), 2, seq, told); e != api.ErrSeq || len(got.Rows) != 0 {
			t.Errorf("Keep 2 %d behind the last: %+v %d", seq, got, e)
		}
	}
	if got, e := session.Keep(full(), 2, lastSeq+1, told); e != api.ErrArg || len(got.Rows) != 0 {
		t.Errorf("Keep 2 beyond the last: %+v %d", got, e)
	}
}

// P12.3: all that may be wrong, with each other: the first one by the chapter is told, and nothing else.
func TestKeepWrong(t *testing.T) {
	groups := map[string]api.Sessions{"zero row": of(api.Session{}), "falling": of(row(2, 1, api.Reply{}), row(1, 1, api.Reply{})), "wrong reply": of(row(2, 1, listed(9, 9)))}
	for name, s := range rightSessions() {
		groups[name] = s
	}
	replies := map[string]api.Reply{"zero": {}, "empty": {Names: []uint32{}}, "error": refused(api.ErrSeq), "names": listed(2, 5), "most": listed(names(mostNames, 1)...)}
	for name, r := range wrongReplies() {
		if len(r.Names) < 100 {
			replies[name] = r
		}
	}
	told := map[api.Errno]int{}
	for name, s := range groups {
		for what, r := range replies {
			for _, client := range somebody {
				for _, seq := range numbers {
					got, err := holdKeep(t, name+", "+what, s, client, seq, r)
					if err == api.OK && !may(got) {
						t.Errorf("Keep of %s may not be", name)
					}
					told[err]++
				}
			}
		}
	}
	for _, e := range []api.Errno{api.OK, api.ErrSession, api.ErrArg, api.ErrSeq} {
		if told[e] == 0 {
			t.Errorf("%d was never to be told: %v", e, told)
		}
	}
	for name, s := range wrongSessions() {
		if got, e := session.Keep(s, 1, 1, api.Reply{}); e != api.ErrSession || len(got.Rows) != 0 {
			t.Errorf("Keep, %s: %+v %d", name, got, e)
		}
	}
}

// someReply is a reply that may be.
func someReply(r *rand.Rand) api.Reply {
	if r.Intn(2) == 0 {
		return refused(api.Errno(r.Intn(300)))
	}
	all := map[uint32]int{}
	for range r.Intn(mostNames + 1) {
		all[r.Uint32()>>uint(r.Intn(31))|1]++
	}
	var l []uint32
	for n := range all {
		l = append(l, n)
	}
	slices.Sort(l)
	return listed(l...)
}

// holdKept holds of what was kept: it is old, and its reply told; one more is fresh; all others are wrong.
func holdKept(t *testing.T, s api.Sessions, client int, seq uint64, r api.Reply) {
	t.Helper()
	if got := session.Of(s, client); !equalRow(got, row(client, seq, r)) {
		t.Errorf("kept %d %d %+v, told %+v", client, seq, r, got)
	}
	for _, d := range []uint64{0, 1, 2, 3, 4} {
		n, want := seq+d-2, [5]int{wrong, wrong, old, fresh, wrong}[d]
		if n == 0 || n > lastSeq {
			continue
		}
		if how, e := session.Judge(s, client, n); how != want || e != api.OK {
			t.Errorf("kept %d %d: %d is %d %d", client, seq, n, how, e)
		}
	}
}

// P12.4: clients ask in any order; what is kept of one changes nothing of another, and nothing is fresh twice.
func TestWalks(t *testing.T) {
	r := rand.New(rand.NewSource(124))
	for range 40 {
		var s api.Sessions
		last, reply, seen := [clients + 1]uint64{}, [clients + 1]api.Reply{}, map[[2]uint64]bool{}
		for range 200 {
			client, said := 1+r.Intn(clients), someReply(r)
			seq := last[client] + uint64(r.Intn(4)) - 1
			how, _ := session.Judge(s, client, seq)
			next, e := session.Keep(s, client, seq, said)
			if (how == fresh) != (e == api.OK) {
				t.Errorf("%d %d is %d, and Keep says %d", client, seq, how, e)
			}
			if e != api.OK {
				continue
			}
			if asking := [2]uint64{uint64(client), seq}; seen[asking] {
				t.Errorf("%d %d is fresh twice", client, seq)
			} else {
				seen[asking] = true
			}
			s, last[client], reply[client] = next, seq, said
			if session.Check(s) != api.OK {
				t.Errorf("%+v may not be", s)
			}
			for c := 1; c <= clients; c++ {
				if last[c] > 0 {
					holdKept(t, s, c, last[c], reply[c])
				} else if got := session.Of(s, c); !equalRow(got, api.Session{Client: c}) {
					t.Errorf("%d has asked nothing, told %+v", c, got)
				}
			}
		}
		if t.Failed() {
			return
		}
	}
}

// roomy are the first n rows, with room behind them, in which the others stand, and behind their names.
func roomy(s api.Sessions, n int) api.Sessions {
	all := deep(s).Rows
	for i := range all {
		l := append(all[i].Reply.Names, 77, 88, 99)
		all[i].Reply.Names = l[:len(l)-3]
	}
	return api.Sessions{Rows: all[:n]}
}

// whole are the sessions with all their room, and that of their names.
func whole(s api.Sessions) api.Sessions {
	l := slices.Clone(s.Rows[:cap(s.Rows)])
	for i := range l {
		l[i].Reply.Names = slices.Clone(l[i].Reply.Names[:cap(l[i].Reply.Names)])
	}
	return of(l...)
}

// answers are what all calls answer of what is handed in.
func answers(s api.Sessions, r api.Reply) []api.Sessions {
	var out []api.Sessions
	for client := 1; client <= clients; client++ {
		own := session.Of(s, client)
		kept, _ := session.Keep(s, client, own.Seq+1, r)
		out = append(out, of(own), kept)
		session.Judge(s, client, own.Seq)
	}
	session.Check(s)
	session.CheckReply(r)
	session.Same(s, s)
	session.SameReply(r, r)
	return out
}

// spoil writes over all of the sessions, and holds that no two rows share names.
func spoil(t *testing.T, s api.Sessions) {
	t.Helper()
	l := s.Rows[:cap(s.Rows)]
	for i := range l {
		others := deep(of(l...)).Rows
		room := l[i].Reply.Names[:cap(l[i].Reply.Names)]
		for k := range room {
			room[k] = 55
		}
		l[i].Reply.Names = others[i].Reply.Names
		if !equal(of(l...), of(others...)) {
			t.Fatalf("two rows share names: %+v, want %+v", l, others)
		}
	}
	clear(l)
}

// R3: what is handed in stays as it is, with the room behind; what is answered is new memory, and no two lists share any.
func TestMemory(t *testing.T) {
	all := of(row(1, 7, listed(3, 9, 300)), row(2, 5, listed(6, 8)), row(3, 1, listed(names(mostNames, 1)...)))
	for n := range clients + 1 {
		s, said := roomy(all, n), roomy(of(row(1, 1, listed(11, 12, 13))), 1)
		kept, keptReply := whole(s), whole(said)
		got, again := answers(s, said.Rows[0].Reply), answers(s, said.Rows[0].Reply)
		for i := range got {
			spoil(t, got[i])
		}
		if !equal(whole(s), kept) || !equal(whole(said), keptReply) {
			t.Fatalf("%d rows: what was handed in was changed, or is shared: %+v, of %+v", n, whole(s), kept)
		}
		for i, third := range answers(s, said.Rows[0].Reply) {
			if !equal(again[i], third) {
				t.Fatalf("%d rows: answers share memory: %+v, want %+v", n, again[i], third)
			}
		}
		var ahead []api.Sessions
		for _, a := range again {
			ahead = append(ahead, deep(a))
		}
		spoil(t, s)
		spoil(t, said)
		for i := range again {
			if !equal(again[i], ahead[i]) {
				t.Fatalf("%d rows: what was handed in is kept in an answer", n)
			}
		}
	}
}

// anything is a row of which nothing is sure, but that most of its parts may be.
func anything(r *rand.Rand) api.Session {
	out := row(1+r.Intn(clients), 1+uint64(r.Intn(3)), someReply(r))
	n := func() int { return int(r.Uint64()) >> uint(r.Intn(64)) }
	switch r.Intn(12) {
	case 0:
		out.Client = n()
	case 1:
		out.Seq = uint64(n())
	case 2:
		out.Reply.Err = api.Errno(n())
	case 3:
		out.Reply.Names = append(out.Reply.Names, r.Uint32()>>uint(r.Intn(32)))
	}
	return out
}

// R1: all arguments, whatever they are.
func TestAnything(t *testing.T) {
	r := rand.New(rand.NewSource(125))
	for range 40000 {
		var l []api.Session
		for range r.Intn(clients + 2) {
			l = append(l, anything(r))
		}
		if r.Intn(3) > 0 {
			slices.SortFunc(l, func(a, b api.Session) int {
				if a.Client < b.Client {
					return -1
				}
				return 1
			})
			l = slices.CompactFunc(l, func(a, b api.Session) bool { return a.Client == b.Client })
		}
		s, q := of(l...), anything(r)
		holdCheck(t, "anything", s, may(s))
		holdReply(t, "anything", q.Reply, mayReply(q.Reply))
		holdOf(t, "anything", s, q.Client)
		holdJudge(t, "anything", s, q.Client, q.Seq)
		holdKeep(t, "anything", s, q.Client, q.Seq, q.Reply)
		if t.Failed() {
			return
		}
	}
}
