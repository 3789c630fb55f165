package claim_test

import (
	"math/big"
	"slices"
	"testing"

	"gooseneck/api"
	"gooseneck/claim"
)

// What is due by the log of the examples: all, a part, nothing.
func proven(amount int64) api.Claim   { return worth(above(4), amount) }
func unsure(amount int64) api.Claim   { return worth(above(6), amount) }
func excluded(amount int64) api.Claim { return worth(above(11), amount) }

// times returns a claim so many times.
func times(n int, c api.Claim) []api.Claim { return slices.Repeat([]api.Claim{c}, n) }

// P11.7, P11.13: what is paid.
func TestSettle(t *testing.T) {
	const dear, most = 1 << 26, 1 << 40
	for _, x := range []struct {
		what        string
		claims      []api.Claim
		part, limit int64
		want        []int64
	}{
		{"the example", []api.Claim{proven(100), unsure(100)}, 500, 200, []int64{100, 50}},
		{"the example with a lesser cap", []api.Claim{proven(100), unsure(100)}, 500, 100, []int64{67, 33}},
		{"no claims", nil, 500, 100, nil},
		{"no cap", []api.Claim{proven(100), unsure(100)}, 500, 0, []int64{0, 0}},
		{"the greatest cap", []api.Claim{proven(100), unsure(100)}, 500, most, []int64{100, 50}},
		{"just the cap", []api.Claim{proven(100), unsure(100)}, 500, 150, []int64{100, 50}},
		{"1 less", []api.Claim{proven(100), unsure(100)}, 500, 149, []int64{100, 49}},
		{"no part", []api.Claim{proven(100), unsure(100)}, 0, 50, []int64{50, 0}},
		{"the whole part", []api.Claim{proven(100), unsure(100)}, 1000, 1000, []int64{100, 100}},
		{"a part that is rounded down", []api.Claim{unsure(999), unsure(1000), unsure(1001), unsure(2000)}, 1, 100, []int64{0, 1, 1, 2}},
		{"a part that is rounded down from almost 1", []api.Claim{unsure(1), unsure(2)}, 999, 100, []int64{0, 1}},
		{"nothing is due", []api.Claim{excluded(100), proven(0), unsure(0)}, 500, 0, []int64{0, 0, 0}},
		{"nothing is due for the first one", []api.Claim{excluded(7), proven(1), proven(1), proven(1)}, 0, 2, []int64{0, 1, 1, 0}},
		{"nothing is due for those between", []api.Claim{proven(1), excluded(7), proven(0), proven(1), proven(1)}, 0, 2, []int64{1, 0, 0, 1, 0}},
		{"1 more for the first ones", []api.Claim{proven(10), proven(10), proven(10)}, 0, 20, []int64{7, 7, 6}},
		{"1 more for the first one", []api.Claim{proven(1), proven(100), proven(100)}, 0, 100, []int64{1, 50, 49}},
		{"in the other order", []api.Claim{proven(100), proven(100), proven(1)}, 0, 100, []int64{50, 50, 0}},
		{"all are paid without a rest", []api.Claim{proven(10), proven(20), unsure(60)}, 500, 30, []int64{5, 10, 15}},
		{"32 claims", times(32, proven(dear)), 0, most, slices.Repeat([]int64{dear}, 32)},
		{"32 claims, with 1 less", times(32, proven(dear)), 0, 32*dear - 1, append(slices.Repeat([]int64{dear}, 31), dear-1)},
		{"32 claims, with a cap of 33", times(32, proven(dear)), 0, 33, append([]int64{2}, slices.Repeat([]int64{1}, 31)...)},
		{"32 parts", times(32, unsure(dear)), 999, most, slices.Repeat([]int64{dear * 999 / 1000}, 32)},
		{"claims that are both", append(times(2, proven(3)), excluded(9)), 0, 5, []int64{3, 2, 0}},
	} {
		got, e := claim.Settle(example(), x.claims, x.part, x.limit)
		check(t, x.what, got, e, x.want, api.OK)
	}
}

// P11.7: the errors of Settle.
func TestSettleErrors(t *testing.T) {
	one := []api.Claim{proven(1)}
	bad := append(times(2, proven(1)), api.Claim{Kind: 4})
	for _, x := range []struct {
		what        string
		claims      []api.Claim
		part, limit int64
		want        api.Errno
	}{
		{"the least part and cap", one, 0, 0, api.OK},
		{"the greatest part and cap", one, 1000, 1 << 40, api.OK},
		{"a part below 0", one, -1, 0, api.ErrArg},
		{"too great a part", one, 1001, 0, api.ErrArg},
		{"a cap below 0", one, 0, -1, api.ErrArg},
		{"too great a cap", one, 0, 1<<40 + 1, api.ErrArg},
		{"a claim that is not valid", bad, 0, 0, api.ErrArg},
		{"only that", bad[2:], 0, 0, api.ErrArg},
		{"too great a part, without claims", nil, 1001, 0, api.ErrArg},
		{"33 claims", times(33, proven(1)), 0, 0, api.ErrMany},
		{"33 claims that are not valid", times(33, bad[2]), -1, -1, api.ErrMany},
	} {
		got, e := claim.Settle(example(), x.claims, x.part, x.limit)
		if e != x.want || e != api.OK && len(got) > 0 {
			t.Errorf("%s: %v, %d, want %d", x.what, got, e, x.want)
		}
	}
}

// paid returns what is paid of what is due, by the definition: 1 after the other, with numbers of any size.
func paid(dues []int64, limit int64) []int64 {
	var sum, left int64 = 0, limit
	for _, due := range dues {
		sum += due
	}
	if sum <= limit {
		return dues
	}
	var l []int64
	for _, due := range dues {
		n := new(big.Int).Mul(big.NewInt(due), big.NewInt(limit))
		got := n.Div(n, big.NewInt(sum)).Int64()
		l = append(l, got)
		left -= got
	}
	for i := 0; left > 0; i = (i + 1) % len(l) {
		if dues[i] > l[i] {
			l[i]++
			left--
		}
	}
	return l
}

// P11.7, P11.13: no claim is paid more than is due, and all together as much as there is.
func TestAllThatIsPaid(t *testing.T) {
	r := chance(5)
	short := 0
	for range 1500 {
		l := anyLog(r)
		if claim.CheckLog(l) != api.OK {
			continue
		}
		var claims []api.Claim
		var dues []int64
		var sum int64
		part := from(r, 0, 1000)
		most := pick[int64](r, 3, 100, 1<<26)
		for range r.IntN(33) {
			c := worth(anyClaim(r, l), from(r, 0, most))
			verdict, _ := claim.Verdict(l, c)
			due := map[int]int64{api.VerdictProven: c.Amount, api.VerdictOpen: c.Amount * part / 1000}[verdict]
			claims, dues, sum = append(claims, c), append(dues, due), sum+due
		}
		limit := pick(r, from(r, 0, sum), from(r, 0, sum), from(r, 0, 1<<40), min(sum, 40), sum)
		got, e := claim.Settle(l, claims, part, limit)
		check(t, "Settle of "+shown(dues)+" with "+shown(limit), got, e, paid(dues, limit), api.OK)
		var total int64
		for i, n := range got {
			total += n
			if n < 0 || n > dues[i] || n > claims[i].Amount {
				t.Errorf("%d of %d is paid, of an amount of %d", n, dues[i], claims[i].Amount)
			}
		}
		checkSame(t, "all together", total, min(limit, sum))
		if limit < sum {
			short++
		}
	}
	if short < 50 {
		t.Errorf("there was too little for all %d times", short)
	}
}
