package spec_test

import (
	"math"
	"slices"
	"strconv"
	"strings"
	"testing"

	"doorkeeper/api"
	"doorkeeper/spec"
)

// The words of operations and of acts, by their numbers.
var (
	ops  = strings.Fields("enter exit wait timed notify all interrupt holds deflate")
	acts = strings.Fields("Enter Exit Release Notify Leave Grant Interrupt Clear Refuse Look None")
)

// Calls that are often ahead of what is tested.
const (
	in0, in1, in2 = "0 enter; 0 Enter; 0 =; ", "1 enter; 1 Enter; 1 =; ", "2 enter; 2 Enter; 2 =; "
	out0          = "0 exit; 0 Exit; 0 =; "
	call2         = "2 interrupt 0 0; 2 Interrupt 0; 2 =; "
	rest0, rest1  = in0 + "0 wait; 0 Release; ", in1 + "1 wait; 1 Release; "
)

// events reads events that are separated by semicolons: a thread, and what it does. An operation with its object and argument is a call; an act with its Other is one on the object of the thread's last call; = with a code and a value is a return. Numbers that are left out are 0.
func events(t *testing.T, text string) []api.Event {
	t.Helper()
	var l []api.Event
	calls, objs := map[int]int{}, map[int]int{}
	for part := range strings.SplitSeq(strings.TrimSuffix(strings.TrimSpace(text), ";"), ";") {
		words := strings.Fields(part)
		what := words[1]
		n := [3]int{number(t, words[0])}
		for i, word := range words[2:] {
			n[i+1] = number(t, word)
		}
		e := api.Event{Thread: n[0]}
		switch op, act := slices.Index(ops, what), slices.Index(acts, what); {
		case op >= 0:
			e.Kind, e.Index, e.Act, e.Obj, e.Other = api.EvCall, calls[n[0]], op, n[1], n[2]
			calls[n[0]]++
			objs[n[0]] = n[1]
		case act >= 0:
			e.Kind, e.Act, e.Obj, e.Other = api.EvAct, act, objs[n[0]], n[1]
		case what == "=":
			e.Kind, e.Index, e.Res = api.EvReturn, calls[n[0]]-1, api.Result{Code: api.Errno(n[1]), Value: n[2]}
		default:
			t.Fatal(what)
		}
		l = append(l, e)
	}
	return l
}

func number(t *testing.T, word string) int {
	t.Helper()
	n, err := strconv.Atoi(word)
	if err != nil {
		t.Fatal(err)
	}
	return n
}

// taken returns an automaton that has taken the events, which are possible.
func taken(t *testing.T, threads, objects int, text string) *spec.Spec {
	t.Helper()
	s := spec.New(threads, objects)
	for i, e := range events(t, text) {
		if !s.Take(e) {
			t.Fatalf("the event %d is not possible: %s", i, text)
		}
	}
	return s
}

// wantLast tests whether the last one of the events is possible; all others are. There are three threads and two objects.
func wantLast(t *testing.T, may bool, texts ...string) {
	t.Helper()
	for _, text := range texts {
		l := events(t, text)
		want := len(l) - 1
		if may {
			want = -1
		}
		if got := spec.Check(3, 2, l); got != want {
			t.Errorf("Check = %d, want %d: %s", got, want, text)
		}
	}
}

// wantView tests the view of the object 0 after the events.
func wantView(t *testing.T, text string, owner, depth int, waiting ...int) {
	t.Helper()
	v := taken(t, 3, 2, text).View(0)
	if v.Owner != owner || v.Depth != depth || !slices.Equal(v.Waiting, waiting) {
		t.Errorf("View = %v, want %d %d %v: %s", v, owner, depth, waiting, text)
	}
}

// The chapter's examples.
func TestExamples(t *testing.T) {
	wantLast(t, false, "0 enter; 0 Enter; 0 =; 1 enter; 1 Enter")
	wantLast(t, true, "0 exit; 0 Refuse 4; 0 = 4 0")
	text := in0 + in0 + "0 wait; 0 Release; 1 enter; 1 Enter"
	wantLast(t, true, text)
	wantView(t, text, 1, 1, 0)
}

// P12.1, row by row of the table.

func TestEnter(t *testing.T) {
	wantLast(t, true,
		"0 enter; 0 Enter", "0 enter; 0 Enter; 0 =", in0+"0 enter; 0 Enter", in0+out0+"1 enter; 1 Enter", in0+"1 enter 1; 1 Enter",
		in0+"0 enter; 0 Refuse 5", in0+"0 enter; 0 Refuse 5; 0 = 5", "0 enter; 0 Refuse 3; 0 = 3", in0+"0 enter; 0 Refuse 3; 0 = 3",
		in0+"1 enter; 1 Refuse 3; 1 = 3", rest0+"1 enter; 1 Enter",
	)
	wantLast(t, false,
		"0 Enter", "0 enter; 1 Enter", "0 enter; 0 Enter 1", in0+"1 enter; 1 Enter", in0+in0+out0+"1 enter; 1 Enter",
		"0 enter; 0 Refuse 5", in0+"1 enter; 1 Refuse 5", "0 enter; 0 Refuse 4", in0+"0 enter; 0 Refuse 0", in0+"1 enter; 1 Refuse 2",
		"0 enter; 0 Exit", "0 enter; 0 =", "0 enter; 0 Enter; 0 Enter", "0 enter; 0 Enter; 0 Refuse 3", "0 enter; 0 Refuse 3; 0 Enter",
		"0 enter; 0 Enter; 0 = 3", "0 enter; 0 Enter; 0 = 0 1", "0 enter; 0 Refuse 3; 0 =", "0 enter; 0 Refuse 3; 0 = 3 1", "0 enter; 0 Refuse 3; 0 = 5",
		in0+"0 Enter", in0+"0 =", "0 enter; 0 Grant", "0 enter; 0 None",
	)
	wantView(t, "0 enter", -1, 0)
	wantView(t, in0, 0, 1)
	wantView(t, in0+in0+in0, 0, 3)
	wantView(t, in1+"1 enter; 1 Refuse 5", 1, 1)
}

func TestExit(t *testing.T) {
	wantLast(t, true, in0+"0 exit; 0 Exit", in0+out0+"0 exit; 0 Refuse 4", in0+"1 exit; 1 Refuse 4; 1 = 4", in0+"0 exit 1; 0 Refuse 4", rest0+"1 exit; 1 Refuse 4")
	wantLast(t, false,
		"0 exit; 0 Exit", in0+"1 exit; 1 Exit", in0+"0 exit; 0 Refuse 4", in0+"0 exit; 0 Exit 1", in0+"0 exit 1; 0 Exit", in0+"1 exit; 1 Refuse 3",
		in0+"0 exit; 0 Exit; 0 Exit", in0+"0 exit; 0 =", "0 exit; 0 Refuse 4; 0 =", "0 exit; 0 Refuse 4; 0 Refuse 4", in0+"0 exit; 0 Release",
	)
	wantView(t, in0+in0+out0, 0, 1)
	wantView(t, in0+in0+out0+out0, -1, 0)
	wantView(t, in1+"0 exit; 0 Refuse 4", 1, 1)
}

func TestHolds(t *testing.T) {
	wantLast(t, true, in0+"0 holds; 0 Look 1; 0 = 0 1", "0 holds; 0 Look 0; 0 =", in0+"1 holds; 1 Look; 1 =", in0+"0 holds 1; 0 Look", rest0+"1 holds; 1 Look")
	wantLast(t, false,
		in0+"0 holds; 0 Look 0", "0 holds; 0 Look 1", in0+"0 holds; 0 Look 2", in0+"0 holds; 0 Look -1", in0+"0 holds; 0 =", in0+"0 holds; 0 = 0 1",
		in0+"0 holds; 0 Look 1; 0 =", "0 holds; 0 Look; 0 = 0 1", "0 holds; 0 Look; 0 Look", in0+"1 holds; 1 Look 1", "0 holds; 0 Refuse 4",
	)
	// What a look found stays found.
	wantLast(t, true, "0 holds; 0 Look; "+in1+"0 =")
	wantView(t, in0+"1 holds; 1 Look", 0, 1)
}

func TestNotify(t *testing.T) {
	wantLast(t, true,
		in0+"0 notify; 0 Notify -1; 0 =", rest1+in0+"0 notify; 0 Notify 1; 0 =", "0 notify; 0 Refuse 4; 0 = 4", rest1+"0 notify; 0 Refuse 4",
		rest1+rest0+in2+"2 notify; 2 Notify 1; 2 =; 2 notify; 2 Notify 0; 2 =; 2 notify; 2 Notify -1; 2 =", rest1+in0+"0 enter 1; 0 Enter; 0 =; 0 notify 1; 0 Notify -1",
	)
	wantLast(t, false,
		"0 notify; 0 Notify -1", rest1+"0 notify; 0 Notify 1", in0+"0 notify; 0 Notify 0", in0+"0 notify; 0 Notify 1", in0+"0 notify; 0 Notify -2", in0+"0 notify; 0 Refuse 4", in0+"0 notify; 0 Refuse 3",
		rest1+in0+"0 notify; 0 Notify -1", rest1+in0+"0 notify; 0 Notify 0", rest1+in0+"0 notify; 0 Notify 2", rest1+in0+"0 notify; 0 =",
		rest1+rest0+in2+"2 notify; 2 Notify 0", rest0+rest1+in2+"2 notify; 2 Notify 1", rest1+rest0+in2+"2 notify; 2 Notify 1; 2 Notify 0",
		in0+"0 notify; 0 Notify -1; 0 Notify -1", rest1+in0+"0 notify; 0 Notify 1; 0 Notify -1", in0+"0 notify; 0 Notify -1; 0 = 4",
		// It waits for the other object.
		"1 enter 1; 1 Enter; 1 =; 1 wait 1; 1 Release; "+in0+"0 notify; 0 Notify 1",
	)
	wantView(t, rest1+rest0+in2+"2 notify; 2 Notify 1", 2, 1, 0)
	wantView(t, rest1+rest0+in2+"2 notify", 2, 1, 0, 1)
}

func TestAll(t *testing.T) {
	all := rest1 + rest0 + in2 + "2 all; "
	wantLast(t, true, all+"2 Notify 1; 2 Notify 0; 2 Notify -1; 2 =", in0+"0 all; 0 Notify -1; 0 =", "0 all; 0 Refuse 4; 0 = 4", rest1+"0 all; 0 Refuse 4")
	wantLast(t, false,
		all+"2 Notify 0", all+"2 Notify -1", all+"2 =", all+"2 Notify 1; 2 =", all+"2 Notify 1; 2 Notify -1", all+"2 Notify 1; 2 Notify 1", all+"2 Notify 1; 2 Refuse 4", all+"2 Refuse 4",
		all+"2 Notify 1; 2 Notify 0; 2 =", all+"2 Notify 1; 2 Notify 0; 2 Notify -1; 2 Notify -1", all+"2 Notify 1; 2 Notify 0; 2 Notify -1; 2 Refuse 4",
		"0 all; 0 Notify -1", "0 all; 0 =", rest1+"0 all; 0 Notify 1", in0+"0 all; 0 Refuse 3", "0 all; 0 Refuse 4; 0 =",
	)
	wantView(t, all+"2 Notify 1", 2, 1, 0)
	wantView(t, all+"2 Notify 1; 2 Notify 0; 2 Notify -1; 2 =", 2, 1)
	// While it wakes them, one may leave by itself.
	wantLast(t, true, all+"2 Notify 1; 0 Leave 3; 2 Notify -1; 2 =")
	wantLast(t, false, all+"2 Notify 1; 0 Leave 3; 2 Notify 0")
}

// The first act of a wait.
func TestWaitBegins(t *testing.T) {
	for _, wait := range []string{"wait; ", "timed; "} {
		wait = "0 " + wait
		wantLast(t, true,
			in0+wait+"0 Release", in0+call2+wait+"0 Release", wait+"0 Refuse 4; 0 = 4", in1+wait+"0 Refuse 4", wait+"0 Refuse 3; 0 = 3", in0+wait+"0 Refuse 3; 0 = 3",
			in0+call2+wait+"0 Clear; 0 = 0 2", in0+wait+call2+"0 Clear",
		)
		wantLast(t, false,
			wait+"0 Release", in1+wait+"0 Release", in0+wait+"0 Refuse 4", in0+wait+"0 Refuse 5", in0+wait+"0 =", in0+wait+"0 Clear", call2+wait+"0 Clear", in1+call2+wait+"0 Clear", in0+call2+wait+"0 Clear 1",
			in0+call2+wait+"0 Clear; 0 =", in0+call2+wait+"0 Clear; 0 Clear", in0+call2+wait+"0 Clear; 0 Release", in0+call2+wait+"0 Clear; 0 Leave 2", in0+call2+wait+"0 Clear; 0 Grant",
			in0+wait+"0 Leave 3", in0+wait+"0 Leave 1", in0+wait+"0 Grant", in0+wait+"0 Release 1", in0+wait+"0 Release; 0 Release", in0+wait+"0 Release; 0 Refuse 3", in0+wait+"0 Release; 0 Refuse 4",
			in0+wait+"0 Release; 0 =", in0+wait+"0 Release; 0 = 0 3", in0+wait+"0 Release; 0 Grant", in0+wait+"0 Release; 0 wait", in0+wait+"0 Notify -1",
		)
		wantView(t, in0+in0+wait+"0 Release", -1, 0, 0)
		wantView(t, in0+in0+wait+call2+"0 Clear", 0, 2)
	}
}

// How waits end, and what they return.
func TestWaitEnds(t *testing.T) {
	timed0 := in0 + "0 timed; 0 Release; "
	for _, rest := range []string{rest0, timed0} {
		woken := rest + in1 + "1 notify; 1 Notify 0; 1 =; "
		left := rest + "0 Leave 3; "
		cleared := rest + call2 + "0 Clear; "
		wantLast(t, true,
			woken+"1 exit; 1 Exit; 0 Grant; 0 =", left+"0 Grant; 0 = 0 3", cleared+"0 Leave 2; 0 Grant; 0 = 0 2", rest+call2+"0 Leave 3; 0 Grant; 0 = 0 3", rest+call2+in1+"1 notify; 1 Notify 0",
			cleared+in1+"1 notify; 1 Notify -1", cleared+in1+"0 Leave 2",
		)
		wantLast(t, false,
			woken+"0 Grant", woken+"0 =", woken+"0 Leave 3", woken+"0 Leave 0", woken+call2+"0 Clear", woken+call2+"0 Leave 2", woken+"1 notify; 1 Notify 0",
			woken+"1 exit; 1 Exit; 0 Grant; 0 = 0 3", woken+"1 exit; 1 Exit; 0 Grant; 0 Grant", woken+"1 exit; 1 Exit; 0 Grant 1", woken+"1 exit; 1 Exit; 0 Enter",
			left+"0 =", left+"0 = 0 3", left+"0 Leave 3", left+"0 Grant; 0 =", left+"0 Grant; 0 = 0 2", left+call2+"0 Clear", left+in1+"0 Grant", left+in1+"1 notify; 1 Notify 0",
			rest+"0 Leave 0", rest+"0 Leave 2", rest+"0 Leave 4", rest+"0 Leave -1", rest+"0 Clear", rest+call2+"0 Leave 2",
			cleared+"0 Leave 3", cleared+"0 Leave 0", cleared+"0 Clear", cleared+call2+"0 Clear", cleared+"0 Grant", cleared+in1+"1 notify; 1 Notify 0", cleared+"0 Leave 2; 0 Grant; 0 = 0 3",
		)
		wantView(t, left, -1, 0)
		wantView(t, cleared, -1, 0, 0)
		wantView(t, cleared+"0 Leave 2", -1, 0)
		wantView(t, woken, 1, 1)
		wantView(t, woken+"1 exit; 1 Exit; 0 Grant", 0, 1)
	}
	wantLast(t, true, timed0+"0 Leave 1; 0 Grant; 0 = 0 1", timed0+call2+"0 Leave 1")
	wantLast(t, false, rest0+"0 Leave 1", timed0+call2+"0 Clear; 0 Leave 1", timed0+"0 Leave 1; 0 Grant; 0 =")
	// As deep as it was, whoever was in it meanwhile.
	wantView(t, in0+in0+in0+"0 wait; 0 Release; "+in1+in1+"1 exit; 1 Exit; 1 =; 0 Leave 3; 1 exit; 1 Exit; 0 Grant; 0 = 0 3; "+out0, 0, 2)
}

// A thread that has reset its flag is passed over by notifications, but is in the view.
func TestNotificationsPassOverTheInterrupted(t *testing.T) {
	text := rest0 + rest1 + call2 + "0 Clear; " + in2
	wantView(t, text, 2, 1, 0, 1)
	wantLast(t, true, text+"2 notify; 2 Notify 1", text+"2 all; 2 Notify 1; 2 Notify -1", text+"2 notify; 2 Notify 1; 2 =; 2 notify; 2 Notify -1")
	wantLast(t, false, text+"2 notify; 2 Notify 0", text+"2 notify; 2 Notify -1", text+"2 all; 2 Notify 1; 2 Notify 0")
	// A flag alone keeps no notification away, and stays, if the wait has been ended by one.
	flagged := rest0 + call2 + in2 + "2 notify; 2 Notify 0; 2 =; 2 exit; 2 Exit; 0 Grant; 0 =; "
	if s := taken(t, 3, 2, flagged); !s.Flag(0) {
		t.Error("the flag is reset")
	}
	wantLast(t, true, flagged+"0 wait; 0 Clear; 0 = 0 2")
}

// The order is that of the last release: a thread that waits once more is the last one.
func TestTheOrderOfReleases(t *testing.T) {
	text := rest0 + rest1 + "0 Leave 3; 0 Grant; 0 = 0 3; 0 wait; 0 Release; " + in2
	wantLast(t, true, text+"2 notify; 2 Notify 1; 2 =; 2 notify; 2 Notify 0")
	wantLast(t, false, text+"2 notify; 2 Notify 0")
	wantView(t, text, 2, 1, 0, 1)
}

func TestInterrupt(t *testing.T) {
	wantLast(t, true, "0 interrupt 0 1; 0 Interrupt 1; 0 =", "0 interrupt 1 0; 0 Interrupt 0; 0 =", call2+call2, in1+"0 interrupt 0 2; 0 Interrupt 2", "0 interrupt 0 3; 0 = 2", "0 interrupt 0 -1; 0 = 2", "0 interrupt 2 0; 0 = 2")
	wantLast(t, false, "0 interrupt 0 1; 0 Interrupt 0", "0 interrupt 0 1; 0 Interrupt 2", "0 interrupt 0 1; 0 =", "0 interrupt 0 1; 0 Refuse 2", "0 interrupt 0 1; 0 Interrupt 1; 0 Interrupt 1", "0 interrupt 0 3; 0 Interrupt 3", "0 interrupt 0 -1; 0 Interrupt -1", "0 interrupt 2 0; 0 Interrupt 0")
	s := taken(t, 3, 2, "2 interrupt 0 1")
	if s.Flag(1) {
		t.Error("a flag before the act")
	}
	s = taken(t, 3, 2, "2 interrupt 0 1; 2 Interrupt 1")
	if s.Flag(0) || !s.Flag(1) || s.Flag(2) {
		t.Error("not the flag of 1")
	}
	s = taken(t, 3, 2, in1+"1 interrupt 0 1; 1 Interrupt 1; 1 =; 1 wait; 1 Clear")
	if s.Flag(1) {
		t.Error("the flag is not reset")
	}
}

func TestDeflate(t *testing.T) {
	wantLast(t, true, "0 deflate; 0 None", "0 deflate; 0 None; 0 =", "0 deflate; 0 =", in0+"1 deflate; 1 =", "0 deflate 2; 0 = 2")
	wantLast(t, false, "0 deflate; 0 None 1", "0 deflate; 0 None; 0 None", "0 deflate; 0 = 0 1", "0 deflate; 0 = 2", "0 deflate; 0 Refuse 3", "0 deflate; 0 =; 0 None", "0 deflate; 0 =; 0 =", "0 deflate 2; 0 None", "0 deflate 2; 0 =")
	wantView(t, in0+"1 deflate; 1 None", 0, 1)
}

// P12.1: calls, and what is no event.

func TestInvalidCalls(t *testing.T) {
	for _, call := range []api.Call{
		{Op: -1}, {Op: api.Ops}, {Op: math.MinInt}, {Op: math.MaxInt}, {Op: 1 << 32}, {Obj: -1}, {Obj: 2}, {Obj: math.MinInt}, {Obj: math.MaxInt},
		{Op: api.OpExit, Obj: 2}, {Op: api.OpWait, Obj: 2}, {Op: api.OpTimed, Obj: 2}, {Op: api.OpNotify, Obj: 2}, {Op: api.OpAll, Obj: 2}, {Op: api.OpHolds, Obj: 2}, {Op: api.OpDeflate, Obj: 2}, {Op: api.OpDeflate, Obj: -1},
		{Op: api.OpInterrupt, Obj: 2}, {Op: api.OpInterrupt, Arg: -1}, {Op: api.OpInterrupt, Arg: 3}, {Op: api.OpInterrupt, Arg: math.MinInt}, {Op: api.OpInterrupt, Arg: math.MaxInt},
	} {
		s := spec.New(3, 2)
		e := api.Event{Kind: api.EvCall, Thread: 1, Act: call.Op, Obj: call.Obj, Other: call.Arg}
		if !s.Take(e) || s.Take(e) {
			t.Fatalf("the call %v", call)
		}
		if got, is := s.Open(1); got != call || !is {
			t.Fatalf("Open = %v %v, want %v", got, is, call)
		}
		for act := -1; act <= api.Acts; act++ {
			for other := -1; other <= int(api.LastErrno); other++ {
				if s.Take(api.Event{Kind: api.EvAct, Thread: 1, Act: act, Obj: call.Obj, Other: other}) {
					t.Fatalf("the call %v has the act %d", call, act)
				}
			}
		}
		for _, r := range []api.Result{{}, {Code: api.ErrNil}, {Code: api.ErrFull}, {Code: api.ErrArg, Value: 1}} {
			if s.Take(api.Event{Kind: api.EvReturn, Thread: 1, Res: r}) {
				t.Fatalf("the call %v returns %v", call, r)
			}
		}
		if !s.Take(api.Event{Kind: api.EvReturn, Thread: 1, Res: api.Result{Code: api.ErrArg}}) {
			t.Fatalf("the call %v does not return", call)
		}
	}
}

// Arguments mean nothing, but for OpInterrupt.
func TestArgumentsOfOtherCalls(t *testing.T) {
	for op := range api.Ops {
		if op == api.OpInterrupt {
			continue
		}
		for _, arg := range []int{-1, 3, math.MinInt, math.MaxInt} {
			s := spec.New(3, 2)
			e := api.Event{Kind: api.EvCall, Act: op, Other: arg}
			if !s.Take(e) || s.Take(api.Event{Kind: api.EvReturn, Res: api.Result{Code: api.ErrArg}}) {
				t.Errorf("the call %v is not valid", e)
			}
			if got, is := s.Open(0); got != (api.Call{Op: op, Arg: arg}) || !is {
				t.Errorf("Open = %v %v", got, is)
			}
		}
	}
}

// Indices are those of the thread alone, and count the calls that were refused, or not valid, too.
func TestIndices(t *testing.T) {
	s := taken(t, 3, 2, in0+"1 exit; 1 Refuse 4; 1 = 4; 1 exit 9; 1 = 2; 1 deflate; 1 =")
	for u, want := range []int{1, 3, 0} {
		for i := -1; i < 6; i++ {
			if got := s.Copy().Take(api.Event{Kind: api.EvCall, Thread: u, Index: i}); got != (i == want) {
				t.Errorf("the call %d of %d: %v", i, u, got)
			}
		}
	}
	s.Take(api.Event{Kind: api.EvCall, Thread: 1, Index: 3, Act: api.OpDeflate})
	for i := -1; i < 6; i++ {
		if got := s.Copy().Take(api.Event{Kind: api.EvReturn, Thread: 1, Index: i}); got != (i == 3) {
			t.Errorf("the return %d: %v", i, got)
		}
	}
}

// No thread takes part that does not exist, and no object that is not the call's.
func TestThreadsAndObjectsOfEvents(t *testing.T) {
	s := taken(t, 3, 2, "0 enter")
	for _, u := range []int{-1, 3, math.MinInt, math.MaxInt, 1 << 32} {
		for kind := range 3 {
			if s.Take(api.Event{Kind: kind, Thread: u}) {
				t.Errorf("an event of %d", u)
			}
		}
	}
	for _, o := range []int{-1, 1, 2, math.MinInt, math.MaxInt, 1 << 32} {
		if s.Take(api.Event{Kind: api.EvAct, Act: api.ActEnter, Obj: o}) {
			t.Errorf("an act on %d", o)
		}
	}
	for _, kind := range []int{-1, 3, math.MinInt, math.MaxInt} {
		if s.Take(api.Event{Kind: kind, Act: api.ActEnter}) || s.Take(api.Event{Kind: kind, Thread: 1}) {
			t.Errorf("an event of the kind %d", kind)
		}
	}
	if !s.Take(api.Event{Kind: api.EvAct, Act: api.ActEnter}) {
		t.Error("the act is not possible")
	}
}

// A call has no Res, an act neither Index nor Res, a return neither Act, Obj nor Other.
func TestFieldsThatAreZero(t *testing.T) {
	begun := "0 enter 1; 0 Enter; 0 =; 0 enter 1; "
	for _, v := range []int{-1, 1, 2, math.MinInt, math.MaxInt} {
		value, code := api.Result{Value: v}, api.Result{Code: api.Errno(v)}
		for _, c := range []struct {
			ahead string
			odd   []api.Event
			fine  api.Event
		}{
			{"0 enter 1; 0 Enter; 0 =; ", []api.Event{
				{Index: 1, Obj: 1, Res: value}, {Index: 1, Obj: 1, Res: code},
			}, api.Event{Index: 1, Obj: 1}},
			{begun, []api.Event{
				{Kind: api.EvAct, Obj: 1, Index: v}, {Kind: api.EvAct, Obj: 1, Res: value}, {Kind: api.EvAct, Obj: 1, Res: code},
			}, api.Event{Kind: api.EvAct, Obj: 1}},
			{begun + "0 Enter; ", []api.Event{
				{Kind: api.EvReturn, Index: 1, Act: v}, {Kind: api.EvReturn, Index: 1, Obj: v}, {Kind: api.EvReturn, Index: 1, Other: v},
			}, api.Event{Kind: api.EvReturn, Index: 1}},
		} {
			s := taken(t, 3, 2, c.ahead)
			for _, e := range c.odd {
				if s.Take(e) {
					t.Errorf("%+v is possible", e)
				}
			}
			if !s.Take(c.fine) {
				t.Errorf("%+v is not possible", c.fine)
			}
		}
	}
}

// P12.1: New

func TestNew(t *testing.T) {
	for _, n := range [][2]int{{1, 1}, {1, 2}, {3, 1}, {api.MaxThreads, api.MaxObjects}, {1, api.MaxObjects}, {api.MaxThreads, 1}} {
		s := spec.New(n[0], n[1])
		if s == nil {
			t.Fatalf("no automaton with %v", n)
		}
		for _, o := range []int{0, n[1] / 2, n[1] - 1} {
			if v := s.View(o); v.Owner != -1 || v.Depth != 0 || len(v.Waiting) != 0 {
				t.Errorf("View(%d) = %v", o, v)
			}
		}
		for _, u := range []int{0, n[0] / 2, n[0] - 1} {
			if c, is := s.Open(u); s.Flag(u) || is || c != (api.Call{}) {
				t.Errorf("Flag(%d) = %v, Open = %v %v", u, s.Flag(u), c, is)
			}
		}
		last, obj := n[0]-1, n[1]-1
		if !s.Take(api.Event{Kind: api.EvCall, Thread: last, Obj: obj}) || !s.Take(api.Event{Kind: api.EvAct, Thread: last, Obj: obj}) || s.View(obj).Owner != last {
			t.Errorf("the last thread does not enter the last object of %v", n)
		}
	}
	const least, most = math.MinInt, math.MaxInt
	for _, n := range [][2]int{
		{0, 1}, {1, 0}, {0, 0}, {-1, 1}, {1, -1}, {-1, -1}, {least, 1}, {1, least}, {most, 1}, {1, most}, {most, most},
		{api.MaxThreads + 1, 1}, {1, api.MaxObjects + 1}, {1<<32 + 1, 1}, {1, 1<<32 + 1},
	} {
		if spec.New(n[0], n[1]) != nil {
			t.Errorf("an automaton with %v", n)
		}
		if got := spec.Check(n[0], n[1], []api.Event{{Kind: api.EvCall}}); got != 0 {
			t.Errorf("Check = %d with %v", got, n)
		}
		if got := spec.Check(n[0], n[1], nil); got != -1 {
			t.Errorf("Check = %d with %v, without events", got, n)
		}
		if got := spec.Check(n[0], n[1], []api.Event{}); got != -1 {
			t.Errorf("Check = %d with %v, without events", got, n)
		}
	}
}

func TestNoAutomaton(t *testing.T) {
	for _, s := range []*spec.Spec{nil, {}} {
		for _, n := range []int{-1, 0, 1, math.MinInt, math.MaxInt} {
			if v := s.View(n); v.Owner != -1 || v.Depth != 0 || v.Waiting != nil {
				t.Errorf("View = %v", v)
			}
			if c, is := s.Open(n); s.Flag(n) || is || c != (api.Call{}) {
				t.Errorf("Open = %v %v", c, is)
			}
			for kind := range 3 {
				if s.Take(api.Event{Kind: kind, Thread: n}) {
					t.Error("an event is possible")
				}
			}
		}
	}
	var none *spec.Spec
	if none.Copy() != nil {
		t.Error("a copy of none")
	}
}

// P12.1: Copy

// A copy goes its own way, whatever the state is.
func TestCopyIsIndependent(t *testing.T) {
	for _, text := range []string{"0 deflate; 0 =; ", in0, rest0 + rest1 + call2, rest0 + rest1 + in2 + "2 all; 2 Notify 0; ", rest0 + call2 + "0 Clear; "} {
		for _, rest := range []string{"0 exit; ", "2 enter 1; 2 Enter; ", "0 Leave 3; ", "0 Leave 2; 0 Grant; ", "0 Clear; ", "1 Leave 3; ", "2 Notify 1; ", "2 interrupt 0 2; 2 Interrupt 2; "} {
			s := taken(t, 3, 2, text)
			for range 2 {
				c := s.Copy()
				before := seen(s)
				if seen(c) != before {
					t.Fatalf("the copy is another one after %s", text)
				}
				for _, e := range events(t, text+rest)[len(events(t, text)):] {
					c.Take(e)
				}
				if seen(s) != before {
					t.Fatalf("%s changes the original after %s", rest, text)
				}
				other := s.Copy()
				for _, e := range events(t, text+rest)[len(events(t, text)):] {
					s.Take(e)
				}
				if seen(other) != before || seen(s) != seen(c) {
					t.Fatalf("%s changes the copy after %s", rest, text)
				}
				s = other
			}
		}
	}
}

// Threads that wait are appended to a line of its own, after one has left, and before.
func TestCopiesOfLines(t *testing.T) {
	text := rest0 + rest1
	for _, more := range []string{"", "0 Leave 3; ", "1 Leave 3; "} {
		s := taken(t, 4, 1, text+more)
		a, b := s.Copy(), s.Copy()
		third := events(t, in2+"2 wait; 2 Release")
		fourth := events(t, "3 enter; 3 Enter; 3 =; 3 wait; 3 Release")
		for i := range third {
			if !a.Take(third[i]) || !b.Take(fourth[i]) {
				t.Fatal("an event is not possible")
			}
		}
		was := s.View(0).Waiting
		if va, vb := a.View(0).Waiting, b.View(0).Waiting; !slices.Equal(va, append(slices.Clip(was), 2)) || !slices.Equal(vb, append(slices.Clip(was), 3)) {
			t.Errorf("%v and %v wait, where %v did", va, vb, was)
		}
	}
}

// seen is all that can be seen of three threads and two objects.
func seen(s *spec.Spec) string {
	var b strings.Builder
	for i := range 3 {
		c, is := s.Open(i)
		for _, n := range []int{c.Op, c.Obj, c.Arg, s.View(i).Owner, s.View(i).Depth, -7} {
			b.WriteString(strconv.Itoa(n) + " ")
		}
		for _, u := range s.View(i).Waiting {
			b.WriteString(strconv.Itoa(u) + " ")
		}
		b.WriteString(strconv.FormatBool(is) + strconv.FormatBool(s.Flag(i)) + ";")
	}
	return b.String()
}

// P12.2: View, Flag, Open

func TestWaitingThreadsRise(t *testing.T) {
	text := in2 + "2 wait; 2 Release; " + rest0 + rest1
	wantView(t, text, -1, 0, 0, 1, 2)
	wantView(t, text+"0 Leave 3", -1, 0, 1, 2)
	// Those of the other object are not among them.
	s := taken(t, 3, 2, rest0+"1 enter 1; 1 Enter; 1 =; 1 wait 1; 1 Release")
	if a, b := s.View(0).Waiting, s.View(1).Waiting; !slices.Equal(a, []int{0}) || !slices.Equal(b, []int{1}) {
		t.Errorf("%v and %v wait", a, b)
	}
}

func TestViewIsTheCallers(t *testing.T) {
	s := taken(t, 3, 2, rest1+rest0)
	l := s.View(0).Waiting
	l[0], l[1] = 9, 9
	if got := s.View(0).Waiting; !slices.Equal(got, []int{0, 1}) {
		t.Error(got)
	}
	// The order in which they are notified is not that of the view, and stays.
	for i, e := range events(t, rest1+rest0+in2+"2 notify; 2 Notify 1")[10:] {
		if !s.Take(e) {
			t.Fatal(i)
		}
	}
}

func TestThreadsAndObjectsThatAreNot(t *testing.T) {
	s := taken(t, 3, 2, rest0+call2)
	for _, n := range []int{-1, 3, 4, math.MinInt, math.MaxInt, 1 << 32} {
		if v := s.View(n); v.Owner != -1 || v.Depth != 0 || v.Waiting != nil {
			t.Errorf("View(%d) = %v", n, v)
		}
		if c, is := s.Open(n); s.Flag(n) || is || c != (api.Call{}) {
			t.Errorf("Flag(%d) = %v, Open = %v %v", n, s.Flag(n), c, is)
		}
	}
	if v := s.View(2); v.Owner != -1 {
		t.Errorf("View(2) = %v", v)
	}
}

func TestOpen(t *testing.T) {
	for _, c := range []struct {
		text string
		want api.Call
		is   bool
	}{
		{"0 timed 1 7", api.Call{Op: api.OpTimed, Obj: 1, Arg: 7}, true},
		{"0 enter", api.Call{}, true},
		{"0 interrupt 1 2; 0 Interrupt 2", api.Call{Op: api.OpInterrupt, Obj: 1, Arg: 2}, true},
		{"0 interrupt 1 2; 0 Interrupt 2; 0 =", api.Call{}, false},
		{"0 deflate 5 6; 0 = 2", api.Call{}, false},
		{in0 + "0 wait 0 4; 0 Release; 0 Leave 3", api.Call{Op: api.OpWait, Arg: 4}, true},
		{"1 enter", api.Call{}, false},
	} {
		if got, is := taken(t, 3, 2, c.text).Open(0); got != c.want || is != c.is {
			t.Errorf("Open = %v %v after %s", got, is, c.text)
		}
	}
}

// P12.3: Check

func TestCheck(t *testing.T) {
	l := events(t, rest0+"1 enter; 1 Enter; 1 =; 1 notify; 1 Notify 0; 1 =; 1 exit; 1 Exit; 0 Grant; 0 =; 1 =")
	before := slices.Clone(l)
	if got := spec.Check(2, 1, l); got != -1 {
		t.Fatalf("Check = %d", got)
	}
	for i := range l {
		if got := spec.Check(2, 1, l[:i]); got != -1 {
			t.Errorf("Check = %d of the first %d", got, i)
		}
		odd := slices.Clone(l)
		odd[i].Thread = 2
		odd = append(odd, api.Event{Kind: 7})
		if got := spec.Check(2, 1, odd); got != i {
			t.Errorf("Check = %d with a wrong event at %d", got, i)
		}
	}
	if !slices.Equal(l, before) {
		t.Error("Check changes the events")
	}
	// Each Check has an automaton of its own, of so many threads and objects.
	if got := spec.Check(1, 1, l); got != 5 {
		t.Errorf("Check = %d with one thread", got)
	}
	if got := spec.Check(2, 1, events(t, "0 enter 1; 0 Enter")); got != 1 {
		t.Errorf("Check = %d with one object", got)
	}
	if got := spec.Check(2, 2, events(t, "0 enter 1; 0 Enter")); got != -1 {
		t.Errorf("Check = %d with two objects", got)
	}
}

// P12.1, P12.4: as many threads as there may be.
func TestAllThreadsWait(t *testing.T) {
	s := spec.New(api.MaxThreads, 1)
	do := func(e api.Event) {
		t.Helper()
		if !s.Take(e) {
			t.Fatalf("%+v is not possible", e)
		}
	}
	const waiting = 2000
	for u := range waiting {
		// Out of order, and each of them once.
		u = u * 7 % waiting * 16
		do(api.Event{Kind: api.EvCall, Thread: u})
		do(api.Event{Kind: api.EvAct, Thread: u})
		do(api.Event{Kind: api.EvReturn, Thread: u})
		do(api.Event{Kind: api.EvCall, Thread: u, Index: 1, Act: api.OpWait})
		do(api.Event{Kind: api.EvAct, Thread: u, Act: api.ActRelease})
	}
	l := s.View(0).Waiting
	if len(l) != waiting || !slices.IsSorted(l) {
		t.Fatalf("%d wait", len(l))
	}
	do(api.Event{Kind: api.EvCall, Thread: 1})
	do(api.Event{Kind: api.EvAct, Thread: 1})
	do(api.Event{Kind: api.EvReturn, Thread: 1})
	do(api.Event{Kind: api.EvCall, Thread: 1, Index: 1, Act: api.OpAll})
	for u := range waiting {
		do(api.Event{Kind: api.EvAct, Thread: 1, Act: api.ActNotify, Other: u * 7 % waiting * 16})
	}
	do(api.Event{Kind: api.EvAct, Thread: 1, Act: api.ActNotify, Other: -1})
	do(api.Event{Kind: api.EvReturn, Thread: 1, Index: 1})
}

// There is no limit to the depth.
func TestDeep(t *testing.T) {
	s := spec.New(1, 1)
	for i := range 100000 {
		if !s.Take(api.Event{Kind: api.EvCall, Index: i}) || !s.Take(api.Event{Kind: api.EvAct}) || !s.Take(api.Event{Kind: api.EvReturn, Index: i}) {
			t.Fatalf("no further than %d", i)
		}
	}
	if v := s.View(0); v.Owner != 0 || v.Depth != 100000 {
		t.Error(v)
	}
}
