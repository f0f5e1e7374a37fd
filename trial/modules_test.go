package trial

import (
	"reflect"
	"testing"

	"plait/api"
	"plait/valid"
)

// Every module that is made is typed, and hangs on its seed alone.
func TestModules(t *testing.T) {
	size := 0
	for seed := range uint64(500) {
		m := Module(seed)
		if e := valid.Check(m); e != 0 {
			t.Fatal(seed, e)
		}
		if !reflect.DeepEqual(m, Module(seed)) {
			t.Fatal(seed)
		}
		for _, c := range m.Codes {
			size += len(c.Body)
		}
	}
	if size < 500*4*20 {
		t.Error("bodies are short:", size)
	}
	if len(Arguments(5, []int{api.I32, api.V128})) != 3 {
		t.Error("Arguments")
	}
}
