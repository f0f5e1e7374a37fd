package host_test

import (
	"reflect"
	"slices"
	"testing"

	"plait/api"
	"plait/host"
)

const (
	i32, i64, v128 = api.I32, api.I64, api.V128
)

var (
	env  = api.Import{Module: "env", Name: "f"}
	exit = api.Import{Module: "host", Name: "exit"}
)

func sig(in []int, out ...int) api.Sig { return api.Sig{In: in, Out: out} }

func call(t *testing.T, h *host.Host, i int, im api.Import, s api.Sig, args []uint64, want []uint64, we api.Errno) {
	t.Helper()
	got, e := h.Call(i, im, s, args...)
	if e != we || !slices.Equal(got, want) || e != 0 && got != nil {
		t.Errorf("Call(%d, %v, %v, %v): %v, %d, want %v, %d", i, im, s, args, got, e, want, we)
	}
}

func logged(t *testing.T, h *host.Host, want ...api.Event) {
	t.Helper()
	got := h.Log()
	ok := len(got) == len(want)
	for k := range want {
		ok = ok && got[k].Func == want[k].Func && slices.Equal(got[k].Args, want[k].Args)
	}
	if !ok {
		t.Errorf("the log: %v, want %v", got, want)
	}
}

// P16.1
func TestReplies(t *testing.T) {
	many := make([]uint64, 5000)
	for i := range many {
		many[i] = uint64(i)
	}
	h := host.New(many...)
	if h.Waiting() != 4096 || h.Code() != 0 || len(h.Log()) != 0 {
		t.Error(h.Waiting(), h.Code())
	}
	if h.Reply(7) != api.ErrMany || h.Reply() != 0 || h.Waiting() != 4096 {
		t.Error("Reply to a full host")
	}
	call(t, h, 0, env, sig(nil, i64, i64), nil, []uint64{0, 1}, 0)
	if h.Reply(7, 8, 9) != api.ErrMany || h.Waiting() != 4094 || h.Reply(7, 8) != 0 || h.Waiting() != 4096 {
		t.Error("Reply", h.Waiting())
	}
	for i := 2; i < 4096; i += 23 {
		call(t, h, 0, env, sig(nil, slices.Repeat([]int{i64}, 23)...), nil, many[i:i+23], 0)
		if h.Waiting() != 4098-i-23 {
			t.Fatal(i, h.Waiting())
		}
	}
	call(t, h, 0, env, sig(nil, i64, i64, i64), nil, []uint64{7, 8, 0}, 0)
	if h.Waiting() != 0 {
		t.Error(h.Waiting())
	}
	if h := host.New(); h.Waiting() != 0 || h.Reply(many[:4096]...) != 0 || h.Reply(many...) != api.ErrMany || h.Waiting() != 4096 {
		t.Error("Reply to an empty host")
	}
}

// P16.2: what is logged, and what is answered.
func TestCall(t *testing.T) {
	h := host.New(1, 2, 1<<40+3, 1<<32+1, 5)
	call(t, h, 0, env, sig([]int{v128}, i64, v128), []uint64{5, 6}, []uint64{1, 2, 1<<40 + 3}, 0)
	call(t, h, 3, env, sig([]int{i32, i64, v128, i32}, i32), []uint64{1<<40 + 1, 1<<40 + 2, 1<<40 + 3, 1<<40 + 4, 1<<40 + 5}, []uint64{1}, 0)
	call(t, h, -9, env, sig(nil, v128, i32), nil, []uint64{5, 0, 0}, 0)
	call(t, h, 1, env, sig(nil), nil, nil, 0)
	want := []api.Event{{Func: 0, Args: []uint64{5, 6}}, {Func: 3, Args: []uint64{1, 1<<40 + 2, 1<<40 + 3, 1<<40 + 4, 5}}, {Func: -9}, {Func: 1}}
	logged(t, h, want...)
	if h.Code() != 0 {
		t.Error(h.Code())
	}
}

// P16.2: the call that ends.
func TestExit(t *testing.T) {
	h := host.New(11, 12)
	call(t, h, 1, exit, sig([]int{i32}), []uint64{1<<32 + 7}, nil, api.ErrExit)
	if h.Code() != 7 || h.Waiting() != 2 {
		t.Error(h.Code(), h.Waiting())
	}
	call(t, h, 2, exit, sig([]int{v128, i32}, i64), []uint64{1<<40 + 9, 5, 6}, nil, api.ErrExit)
	if h.Code() != 9 || h.Waiting() != 2 {
		t.Error(h.Code(), h.Waiting())
	}
	for _, other := range []api.Import{{Module: "host", Name: "exit2"}, {Module: "Host", Name: "exit"}, {Module: "exit", Name: "host"}, {}} {
		call(t, h, 5, other, sig([]int{i32}), []uint64{1}, nil, 0)
	}
	if h.Code() != 9 {
		t.Error(h.Code())
	}
	call(t, h, 3, exit, sig(nil), nil, nil, api.ErrExit)
	if h.Code() != 0 {
		t.Error(h.Code())
	}
	call(t, h, 4, exit, sig([]int{i64}), []uint64{1<<63 + 1<<31}, nil, api.ErrExit)
	if h.Code() != 1<<31 || len(h.Log()) != 8 || !slices.Equal(h.Log()[0].Args, []uint64{7}) || !slices.Equal(h.Log()[1].Args, []uint64{1<<40 + 9, 5, 6}) {
		t.Error(h.Code(), h.Log())
	}
}

// P16.2, P16.3: ErrArg ahead of ErrLog ahead of ErrExit; nothing changes.
func TestErrors(t *testing.T) {
	h := host.New(1, 2)
	rows := []struct {
		s    api.Sig
		args []uint64
	}{
		{sig([]int{i32}), nil}, {sig([]int{i32}), []uint64{1, 2}}, {sig([]int{v128}), []uint64{1}}, {sig([]int{v128}), []uint64{1, 2, 3}}, {sig(nil), []uint64{1}}, {sig([]int{0x7d}), []uint64{1}}, {sig([]int{0}), nil}, {sig(nil, 5), nil}, {sig([]int{i32}, i32, 0x7c), []uint64{1}}, {sig(nil, -1), nil},
	}
	for _, r := range rows {
		call(t, h, 0, env, r.s, r.args, nil, api.ErrArg)
		call(t, h, 0, exit, r.s, r.args, nil, api.ErrArg)
	}
	if h.Waiting() != 2 || len(h.Log()) != 0 {
		t.Error(h.Waiting(), h.Log())
	}
	for i := range 1024 {
		call(t, h, i, env, sig(nil), nil, nil, 0)
	}
	call(t, h, 0, env, sig(nil, i32), nil, nil, api.ErrLog)
	call(t, h, 0, exit, sig([]int{i32}), []uint64{7}, nil, api.ErrLog)
	call(t, h, 0, exit, sig([]int{i32}), nil, nil, api.ErrArg)
	if h.Waiting() != 2 || len(h.Log()) != 1024 || h.Log()[1023].Func != 1023 || h.Code() != 0 {
		t.Error(h.Waiting(), len(h.Log()), h.Code())
	}
}

// P16.3
func TestClone(t *testing.T) {
	h := host.New(1, 2, 3)
	call(t, h, 4, exit, sig([]int{i64}), []uint64{8}, nil, api.ErrExit)
	c := h.Clone()
	if c.Code() != 8 || c.Waiting() != 3 || !reflect.DeepEqual(c.Log(), h.Log()) {
		t.Error("Clone differs")
	}
	call(t, c, 5, env, sig(nil, i64), nil, []uint64{1}, 0)
	call(t, h, 6, env, sig(nil, i64, i64), nil, []uint64{1, 2}, 0)
	call(t, c, 7, exit, sig(nil), nil, nil, api.ErrExit)
	c.Reply(9)
	if h.Waiting() != 1 || c.Waiting() != 3 || h.Code() != 8 || c.Code() != 0 {
		t.Error("Clone shares")
	}
	logged(t, h, api.Event{Func: 4, Args: []uint64{8}}, api.Event{Func: 6})
	logged(t, c, api.Event{Func: 4, Args: []uint64{8}}, api.Event{Func: 5}, api.Event{Func: 7})
}

// P16.3: a nil host.
func TestNil(t *testing.T) {
	var h *host.Host
	if h.Clone() != nil || h.Waiting() != 0 || h.Code() != 0 || len(h.Log()) != 0 || h.Reply(make([]uint64, 5000)...) != api.ErrNil {
		t.Error("nil")
	}
	call(t, h, 0, env, sig([]int{5}), nil, nil, api.ErrNil)
}

// P16.4
func TestMemory(t *testing.T) {
	replies, more, args := []uint64{1, 2}, []uint64{3, 4}, []uint64{5, 6}
	s := sig([]int{i64, i64}, i64, i64)
	h := host.New(replies...)
	h.Reply(more...)
	one, _ := h.Call(0, env, s, args...)
	replies[0], replies[1], more[0], more[1], args[0], args[1], s.In[0] = 9, 9, 9, 9, 9, 9, 9
	one[0] = 99
	log := h.Log()
	log[0].Args[0], log[0].Func = 77, 78
	logged(t, h, api.Event{Func: 0, Args: []uint64{5, 6}})
	call(t, h, 0, env, sig(nil, i64, i64), nil, []uint64{3, 4}, 0)
	if !slices.Equal(one, []uint64{99, 2}) || !slices.Equal(replies, []uint64{9, 9}) {
		t.Error(one)
	}
	spare := make([]uint64, 1, 10)
	h = host.New(spare...)
	h.Reply(5)
	if spare[:2][1] != 0 {
		t.Error("New has used what was handed in")
	}
}
