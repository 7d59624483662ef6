package scheduler_test

import (
	"math"
	"math/rand/v2"
	"slices"
	"testing"

	"saturate/api"
	"saturate/scheduler"
)

// TestNew checks New of P32.1.
func TestNew(t *testing.T) {
	for _, c := range []struct {
		rules, limit, ban int
		count             int
		want              api.Backoff
	}{
		{3, 10, 2, 3, api.Backoff{Limit: 10, Ban: 2}}, {0, 10, 2, 0, api.Backoff{}}, {-1, 10, 2, 0, api.Backoff{}}, {math.MinInt, 10, 2, 0, api.Backoff{}}, {1024, 5, 5, 1024, api.Backoff{Limit: 5, Ban: 5}}, {1025, 5, 5, 1024, api.Backoff{Limit: 5, Ban: 5}}, {math.MaxInt, 1, 1, 1024, api.Backoff{Limit: 1, Ban: 1}},
		{1, 0, -5, 1, api.Backoff{Limit: 1, Ban: 1}}, {2, math.MinInt, 0, 2, api.Backoff{Limit: 1, Ban: 1}}, {2, 65536, 65536, 2, api.Backoff{Limit: 65536, Ban: 65536}}, {2, 65537, math.MaxInt, 2, api.Backoff{Limit: 65536, Ban: 65536}},
	} {
		l := scheduler.New(c.rules, c.limit, c.ban)
		if len(l) != c.count || slices.ContainsFunc(l, func(b api.Backoff) bool { return b != c.want }) {
			t.Errorf("New(%d, %d, %d) has %d states", c.rules, c.limit, c.ban, len(l))
		}
	}
}

// TestReady checks Ready and Banned of P32.1.
func TestReady(t *testing.T) {
	for _, c := range []struct {
		until, iter int
		want        bool
	}{
		{0, 0, true}, {3, 2, false}, {3, 3, true}, {3, 4, true}, {0, -1, true}, {1, -1, false}, {1, math.MinInt, false}, {-5, -9, true}, {math.MinInt, 0, true}, {1 << 40, 1<<40 - 1, false}, {1 << 40, 1 << 40, true}, {1 << 40, math.MaxInt, true}, {1<<40 + 1, math.MaxInt, false}, {1 << 42, 1 << 42, false}, {math.MaxInt, math.MaxInt, false},
	} {
		b := api.Backoff{Limit: 1, Ban: 1, Until: c.until}
		if scheduler.Ready(b, c.iter) != c.want {
			t.Errorf("Ready until %d in %d", c.until, c.iter)
		}
		banned := 2
		if c.want {
			banned = 0
		}
		if n := scheduler.Banned([]api.Backoff{b, {Until: math.MinInt}, b, {}}, c.iter); n != banned {
			t.Errorf("Banned until %d in %d: %d", c.until, c.iter, n)
		}
	}
	if scheduler.Banned(nil, 0) != 0 || scheduler.Banned([]api.Backoff{{Until: 5}, {Until: 6}, {Until: 7}}, 6) != 1 {
		t.Error("Banned")
	}
}

// TestThreshold checks Threshold of P32.1.
func TestThreshold(t *testing.T) {
	for _, c := range []struct{ limit, times, want int }{
		{10, 0, 10}, {10, 1, 20}, {10, 5, 320}, {1, 30, 1 << 30}, {1, 31, 1 << 30}, {1, math.MaxInt, 1 << 30}, {3, -1, 3}, {3, math.MinInt, 3}, {0, 4, 16}, {-7, 0, 1}, {65536, 0, 65536}, {65536, 23, 1 << 39}, {65536, 24, 1 << 40}, {65536, 25, 1 << 40}, {65535, 30, 1 << 40}, {1023, 30, 1023 << 30}, {1025, 30, 1 << 40}, {math.MaxInt, 2, 1 << 18},
	} {
		if n := scheduler.Threshold(api.Backoff{Limit: c.limit, Ban: 5, Times: c.times, Until: 7}); n != c.want {
			t.Errorf("Threshold with limit %d, banned %d times, is %d, not %d", c.limit, c.times, n, c.want)
		}
	}
}

// TestTake checks P32.2.
func TestTake(t *testing.T) {
	for i, c := range []struct {
		b           api.Backoff
		iter, found int
		want        api.Backoff
		ok          bool
	}{
		{api.Backoff{Limit: 10, Ban: 2}, 0, 10, api.Backoff{Limit: 10, Ban: 2}, true},
		{api.Backoff{Limit: 10, Ban: 2}, 0, 11, api.Backoff{Limit: 10, Ban: 2, Times: 1, Until: 3}, false},
		{api.Backoff{Limit: 10, Ban: 2, Times: 1, Until: 3}, 3, 20, api.Backoff{Limit: 10, Ban: 2, Times: 1, Until: 3}, true},
		{api.Backoff{Limit: 10, Ban: 2, Times: 1, Until: 3}, 3, 21, api.Backoff{Limit: 10, Ban: 2, Times: 2, Until: 8}, false},
		{api.Backoff{Limit: 10, Ban: 3, Times: 1, Until: 99}, 1, 21, api.Backoff{Limit: 10, Ban: 3, Times: 2, Until: 8}, false}, // even if it is not ready
		{api.Backoff{}, 5, 0, api.Backoff{Limit: 1, Ban: 1}, true},
		{api.Backoff{}, 5, 1, api.Backoff{Limit: 1, Ban: 1}, true},
		{api.Backoff{}, 5, 2, api.Backoff{Limit: 1, Ban: 1, Times: 1, Until: 7}, false},
		{api.Backoff{Limit: -3, Ban: math.MinInt, Times: -1, Until: -1}, -9, math.MinInt, api.Backoff{Limit: 1, Ban: 1}, true},
		{api.Backoff{Limit: -3, Ban: math.MinInt, Times: -1, Until: -1}, -9, 2, api.Backoff{Limit: 1, Ban: 1, Times: 1, Until: 2}, false},
		{api.Backoff{Limit: math.MaxInt, Ban: math.MaxInt, Times: math.MaxInt, Until: math.MaxInt}, math.MaxInt, math.MaxInt, api.Backoff{Limit: 65536, Ban: 65536, Times: 30, Until: 1 << 42}, true},
		{api.Backoff{Limit: 5, Ban: 5, Until: 1 << 42}, 0, 5, api.Backoff{Limit: 5, Ban: 5, Until: 1 << 42}, true},
		{api.Backoff{Limit: 5, Ban: 5, Until: 1<<42 - 1}, 0, 5, api.Backoff{Limit: 5, Ban: 5, Until: 1<<42 - 1}, true},
		{api.Backoff{Limit: 65536, Ban: 65536, Times: 23}, 0, 1 << 39, api.Backoff{Limit: 65536, Ban: 65536, Times: 23}, true},
		{api.Backoff{Limit: 65536, Ban: 65536, Times: 23}, 0, 1<<39 + 1, api.Backoff{Limit: 65536, Ban: 65536, Times: 24, Until: 1<<39 + 1}, false},
		{api.Backoff{Limit: 1, Ban: 65536, Times: 29}, math.MaxInt, math.MaxInt, api.Backoff{Limit: 1, Ban: 65536, Times: 30, Until: 1<<41 + 1}, false},
		{api.Backoff{Limit: 1, Ban: 1, Times: 30}, 1<<40 + 7, 1<<30 + 1, api.Backoff{Limit: 1, Ban: 1, Times: 30, Until: 1<<40 + 1 + 1<<30}, false},
		{api.Backoff{Limit: 1, Ban: 1, Times: 99}, 4, 1 << 30, api.Backoff{Limit: 1, Ban: 1, Times: 30}, true},
	} {
		if b, ok := scheduler.Take(c.b, c.iter, c.found); b != c.want || ok != c.ok {
			t.Errorf("case %d: %v, %v, not %v, %v", i, b, ok, c.want, c.ok)
		}
	}
}

// TestSimulate checks P32.3.
func TestSimulate(t *testing.T) {
	start := scheduler.New(1, 10, 2)[0]
	for i, c := range []struct {
		b     api.Backoff
		found []int
		want  []bool
	}{
		{start, nil, nil}, {start, []int{10, 10, 0}, []bool{true, true, true}}, {start, []int{11, 0, 0, 20, 21}, []bool{false, false, false, true, false}}, {start, []int{11, 99, 99, 21, 0, 0, 0, 0, 40, 41}, []bool{false, false, false, false, false, false, false, false, true, false}}, {api.Backoff{Until: 2}, []int{0, 0, 0, 1}, []bool{false, false, true, true}}, {api.Backoff{}, []int{2, 2, 2, 2}, []bool{false, false, true, true}}, {api.Backoff{Limit: -1, Until: math.MinInt}, []int{math.MinInt, 1, math.MaxInt}, []bool{true, true, false}},
	} {
		found := slices.Clone(c.found)
		if got := scheduler.Simulate(c.b, found); !slices.Equal(got, c.want) || !slices.Equal(found, c.found) {
			t.Errorf("case %d: %v, not %v", i, got, c.want)
		}
	}
}

// TestLaws checks P32.4, and Simulate against Ready and Take (P32.3).
func TestLaws(t *testing.T) {
	r := rand.New(rand.NewPCG(32, 4))
	for range 300 {
		b := scheduler.New(1, 1+r.IntN(20), 1+r.IntN(4))[0]
		var found []int
		var want []bool
		state, few := b, r.IntN(4) == 0
		for iter := range 120 {
			n := r.IntN(60 << min(iter/10, 8))
			if few {
				n = r.IntN(b.Limit + 1)
			}
			found = append(found, n)
			ok := scheduler.Ready(state, iter)
			if ok {
				next, taken := scheduler.Take(state, iter, n)
				if scheduler.Threshold(next) < scheduler.Threshold(state) || taken && next != state || !taken && (next.Until <= iter+1 || !scheduler.Ready(next, next.Until) || scheduler.Ready(next, next.Until-1)) {
					t.Fatalf("Take(%v, %d, %d) is %v, %v", state, iter, n, next, taken)
				}
				state, ok = next, taken
			}
			if few && !ok {
				t.Fatalf("%v is banned in %d", b, iter)
			}
			want = append(want, ok)
		}
		if got := scheduler.Simulate(b, found); !slices.Equal(got, want) {
			t.Fatalf("Simulate(%v, %v) is %v, not %v", b, found, got, want)
		}
	}
}
