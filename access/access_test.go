package access

import (
	"testing"

	"plait/api"
	"plait/memory"
)

// Each load and store accesses its bytes, with its sign to its type's width.
func TestAccesses(t *testing.T) {
	m, _ := memory.New(1, -1)
	m.Poke(0, []byte{0x81, 0x82, 0x83, 0x84, 0x85, 0x86, 0x87, 0x88})
	loads := map[int]uint64{
		0x28: 0x84838281, 0x29: 0x8887868584838281, 0x2c: 0xffffff81, 0x2d: 0x81, 0x2e: 0xffff8281, 0x2f: 0x8281,
		0x30: 0xffffffffffffff81, 0x31: 0x81, 0x32: 0xffffffffffff8281, 0x33: 0x8281, 0x34: 0xffffffff84838281, 0x35: 0x84838281,
	}
	stores := map[int]int{0x36: 4, 0x37: 8, 0x3a: 1, 0x3b: 2, 0x3c: 1, 0x3d: 2, 0x3e: 4}
	for op := range 0x200 {
		want, isLoad := loads[op]
		n, isStore := stores[op]
		if (Size(op) != 0) != (isLoad || isStore) || Stores(op) != isStore || isStore && Size(op) != n {
			t.Errorf("%x: %d %v", op, Size(op), Stores(op))
		}
		if isLoad {
			if x, e := Load(m, op, 0); x != want || e != 0 {
				t.Errorf("%x: %x %d", op, x, e)
			}
			end := uint64(api.PageBytes - Size(op))
			if _, e := Load(m, op, end); e != 0 {
				t.Errorf("%x: %d", op, e)
			}
			if x, e := Load(m, op, end+1); x != 0 || e != api.TrapBounds {
				t.Errorf("%x: %d %d", op, x, e)
			}
		}
		if isStore {
			if e := Store(m, op, 100, 0x1122334455667788); e != 0 {
				t.Errorf("%x: %d", op, e)
			}
			if x, _ := m.Load(100, 8); x != 0x1122334455667788<<(64-8*n)>>(64-8*n) {
				t.Errorf("%x: %x", op, x)
			}
			m.Store(100, 8, 0)
			if e := Store(m, op, uint64(api.PageBytes-n+1), 1); e != api.TrapBounds {
				t.Errorf("%x: %d", op, e)
			}
		}
	}
}
