package vars

import (
	"slices"
	"testing"

	"census/api"
)

func TestEachStops(t *testing.T) {
	for _, s := range []api.Set{{}, Of(5), Of(1, 64, 65, 128), Of(64, 65), All(api.MaxVars)} {
		want := List(s)
		for n := range want {
			var got []int
			for v := range each(s) {
				got = append(got, v)
				if len(got) > n {
					break
				}
			}
			if !slices.Equal(got, want[:n+1]) {
				t.Error(want, n, got)
			}
		}
	}
}
