package token_test

import (
	"testing"

	"larder/api"
)

// The numbers of the document's section 'Words'. They are asked here, as nothing is laid beside package api's file.

func TestErrorNumbers(t *testing.T) {
	for want, e := range []api.Errno{
		api.OK, api.ErrArg, api.ErrLarge, api.ErrSyntax, api.ErrNone, api.ErrTwice,
		api.ErrFull, api.ErrState, api.ErrShort, api.ErrSum, api.ErrForm, api.ErrRange,
	} {
		if int(e) != want {
			t.Errorf("error %d is %d", want, e)
		}
	}
}

func TestKindNumbers(t *testing.T) {
	for _, l := range [][]int{
		{api.NoBody, api.Length, api.Chunked, api.ToEnd},
		{api.Serve, api.Validate, api.Refuse},
		{api.ActAsk, api.ActReply, api.ActFail, api.ActTick},
	} {
		for i, n := range l {
			if n != i+1 {
				t.Errorf("%v: number %d", l, i)
			}
		}
	}
}

func TestLimits(t *testing.T) {
	for _, c := range []struct {
		name      string
		has, want int
	}{
		{"MaxText", api.MaxText, 1000},
		{"MaxItems", api.MaxItems, 20},
		{"MaxFields", api.MaxFields, 30},
		{"MaxName", api.MaxName, 30},
		{"MaxTarget", api.MaxTarget, 200},
		{"MaxBody", api.MaxBody, 5000},
		{"MaxTime", api.MaxTime, 253402300799},
		{"MaxDelta", api.MaxDelta, 2147483648},
		{"MinChunk", api.MinChunk, 16},
		{"MaxChunk", api.MaxChunk, 128},
		{"MaxRecord", api.MaxRecord, 1000},
		{"MaxKeys", api.MaxKeys, 100},
		{"MaxPile", api.MaxPile, 10000},
		{"MaxHeld", api.MaxHeld, 20},
		{"MaxAsks", api.MaxAsks, 40},
		{"MaxActs", api.MaxActs, 200},
		{"MaxLines", api.MaxLines, 60},
		{"MaxLine", api.MaxLine, 300},
	} {
		if c.has != c.want {
			t.Errorf("%s is %d, not %d", c.name, c.has, c.want)
		}
	}
}
