package chain_test

import (
	"slices"
	"strings"
	"testing"

	"gooseneck/api"
	"gooseneck/chain"
)

const exampleText = "vehicle v1\n" +
	"tractor 4000 0 1000 1000 1250 3000 9000 0 0\n" +
	"axle 4000 12000 4\n" +
	"trailer 8000 0 1000 2000 1500 1000 12000 250 10\n" +
	"axle 8000 20000 8\n" +
	"load 1 1\n"

// P3.1
func TestText(t *testing.T) {
	many := unit(api.UnitModule, size, -size)
	many.Front, many.Rear, many.Width, many.Height, many.Mass, many.Steer = 1, 2, 3, 4, 1<<20, 900
	many.Axles = []api.Axle{axle(0, 1, 1), axle(0, 1<<20, 16), axle(size+2, 5, 6)}
	for _, x := range []struct {
		what string
		v    api.Vehicle
		want string
	}{
		{"the example", example(), exampleText},
		{"the least one", of(unit(api.UnitTractor, 100, 0)), "vehicle a\ntractor 100 0 0 0 0 0 1 0 40\naxle 100 1000 2\nload 0 0\n"},
		{"all kinds", loaded(of(unit(0, 100, -1), unit(1, 101, -20), unit(2, 102, 3), many), 1, 3), "vehicle a\n" +
			"tractor 100 -1 0 0 0 0 1 0 40\naxle 100 1000 2\n" +
			"dolly 101 -20 0 0 0 0 1 0 40\naxle 101 1000 2\n" +
			"trailer 102 3 0 0 0 0 1 0 40\naxle 102 1000 2\n" +
			"module 131072 -131072 1 2 3 4 1048576 900 40\naxle 0 1 1\naxle 0 1048576 16\naxle 131074 5 6\n" +
			"load 1 3\n"},
	} {
		s, e := chain.Text(x.v)
		check(t, x.what, s, e, x.want, api.OK)
		v, e := chain.Parse(x.want)
		checkVehicle(t, x.what, v, e, x.v, api.OK)
	}
}

// P3.1: what is not just the text of a valid vehicle.
func TestParseForm(t *testing.T) {
	const head, first, axis, end = "vehicle a\n", "tractor 100 1 2 3 4 5 6 7 8\n", "axle 100 9 2\n", "load 0 0\n"
	for what, s := range map[string]string{
		"nothing": "", "a line feed": "\n", "a head only": head, "a load only": end, "no units": head + end, "no axles": head + first + end,
		"no head": first + axis + end, "no load": head + first + axis, "no unit ahead of an axle": head + axis + end,
		"no line feed at the end": head + first + axis + "load 0 0", "a line feed too many": head + first + axis + end + "\n",
		"a line feed in front": "\n" + head + first + axis + end, "a line feed between": head + first + "\n" + axis + end,
		"a line feed ahead of the load": head + first + axis + "\n" + end, "carriage returns": strings.ReplaceAll(head+first+axis+end, "\n", "\r\n"),
		"the head twice": head + head + first + axis + end, "the head behind": first + axis + end + head, "the load twice": head + first + axis + end + end,
		"a unit behind the load": head + first + axis + end + first + axis, "an axle behind the load": head + first + axis + end + axis,
		"the load ahead of the units": head + end + first + axis, "the load ahead of an axle": head + first + end + axis,
		"two vehicles": head + first + axis + end + head + first + axis + end, "a unit without an axle behind": head + first + axis + first + end,
		"a unit without an axle in front": head + first + first + axis + end, "another word": head + "trolley 100 1 2 3 4 5 6 7 8\n" + axis + end,
		"a beginning of a word": head + "tract 100 1 2 3 4 5 6 7 8\n" + axis + end, "more than a word": head + "tractors 100 1 2 3 4 5 6 7 8\n" + axis + end,
		"a word of capitals": head + "Tractor 100 1 2 3 4 5 6 7 8\n" + axis + end, "an empty word": head + first + " 100 9 2\n" + end,
		"the first unit no tractor": head + "dolly 100 1 2 3 4 5 6 7 8\n" + axis + end, "another word for an axle": head + first + "axles 100 9 2\n" + end,
		"another word for the load": head + first + axis + "loads 0 0\n", "another word for the head": "vehicles a\n" + first + axis + end,
		"a unit with a number too few": head + "tractor 100 1 2 3 4 5 6 7\n" + axis + end, "a unit with a number too many": head + "tractor 100 1 2 3 4 5 6 7 8 9\n" + axis + end,
		"an axle with a number too few": head + first + "axle 100 9\n" + end, "an axle with a number too many": head + first + "axle 100 9 2 2\n" + end,
		"a load with a number too few": head + first + axis + "load 0\n", "a load with a number too many": head + first + axis + "load 0 0 0\n",
		"a head with a word too few": "vehicle\n" + first + axis + end, "a head with a word too many": "vehicle a b\n" + first + axis + end,
		"a unit without numbers": head + "tractor\n" + axis + end, "an axle without numbers": head + first + "axle\n" + end, "a load without numbers": head + first + axis + "load\n",
		"a space in front": " " + head + first + axis + end, "a space in front of a unit": head + " " + first + axis + end,
		"a space at the end of the head": "vehicle a \n" + first + axis + end, "a space at the end of a unit": head + "tractor 100 1 2 3 4 5 6 7 8 \n" + axis + end,
		"a space at the end of an axle": head + first + "axle 100 9 2 \n" + end, "a space at the end": head + first + axis + "load 0 0 \n",
		"two spaces": head + "tractor  100 1 2 3 4 5 6 7 8\n" + axis + end, "two spaces between": head + first + "axle 100  9 2\n" + end, "a tab": head + first + "axle\t100 9 2\n" + end,
		"a zero in front": head + first + "axle 0100 9 2\n" + end, "less than nothing": head + first + axis + "load -0 0\n", "a zero behind a minus": head + "tractor 100 -01 2 3 4 5 6 7 8\n" + axis + end,
		"a plus": head + first + "axle +100 9 2\n" + end, "a minus only": head + first + axis + "load - 0\n", "no number": head + first + "axle x 9 2\n" + end,
		"a part of a number": head + first + "axle 100.0 9 2\n" + end, "a low line": head + first + "axle 1_00 9 2\n" + end, "digits of another base": head + first + "axle 0x64 9 2\n" + end,
		"digits of another script": head + first + axis + "load \u0660 0\n", "a number that wraps": head + first + axis + "load 18446744073709551616 0\n",
		"a number that wraps in 32 bits": head + first + axis + "load 4294967296 0\n", "a number far beyond": head + first + "axle 99999999999999999999999 9 2\n" + end,
		"no name": "vehicle \n" + first + axis + end, "a name of capitals": "vehicle A\n" + first + axis + end, "a name too long": "vehicle abcdefghijklmnopqrstu\n" + first + axis + end,
		"a unit that is not valid": head + "tractor 99 1 2 3 4 5 6 7 8\n" + axis + end, "an axle that is not valid": head + first + "axle 100 9 17\n" + end,
		"axles in another order": head + first + axis + "axle 99 9 2\n" + end, "a load on no unit": head + first + axis + "load 0 1\n", "a load from back to front": head + first + axis + first + axis + "load 1 0\n",
		"too many units": head + strings.Repeat(first+axis, 13) + end, "too many axles": head + first + strings.Repeat(axis, 25) + end,
		"a byte of zero": head + first + axis + end + "\x00", "bytes that are no text": "vehicle \xff\n" + first + axis + end,
	} {
		v, e := chain.Parse(s)
		checkVehicle(t, what, v, e, api.Vehicle{}, api.ErrForm)
	}
	v, e := chain.Parse(head + strings.Repeat(first+strings.Repeat(axis, 24), 12) + end)
	if e != api.OK || len(v.Units) != 12 || len(v.Units[11].Axles) != 24 {
		t.Errorf("as many as there may be: %v, %d", v, e)
	}
}

// P3.1
func TestParseLong(t *testing.T) {
	for _, x := range []struct {
		what string
		s    string
		want api.Errno
	}{
		{"as long as it may be", strings.Repeat("x", 65536), api.ErrForm},
		{"a byte too long", strings.Repeat("x", 65537), api.ErrLong},
		{"a vehicle, and then too long", exampleText + strings.Repeat("\n", 65536), api.ErrLong},
		{"lines as many as there may be", strings.Repeat("\n", 65536), api.ErrForm},
		{"spaces as many as there may be", strings.Repeat(" ", 65536), api.ErrForm},
		{"spaces of a line", "vehicle " + strings.Repeat(" ", 65000) + "\n", api.ErrForm},
		{"units as many as there may be", "vehicle a\n" + strings.Repeat("tractor 100 1 2 3 4 5 6 7 8\n", 2000), api.ErrForm},
		{"axles as many as there may be", "vehicle a\ntractor 100 1 2 3 4 5 6 7 8\n" + strings.Repeat("axle 1 1 1\n", 5000) + "load 0 0\n", api.ErrForm},
	} {
		v, e := chain.Parse(x.s)
		checkVehicle(t, x.what, v, e, api.Vehicle{}, x.want)
	}
}

// otherVehicle returns a vehicle with one thing that may be another one.
func otherVehicle(v api.Vehicle, what int, d int64) api.Vehicle {
	v = clone(v)
	u := &v.Units[len(v.Units)-1]
	a := &u.Axles[len(u.Axles)-1]
	switch numbers := []*int64{&u.Length, &u.Behind, &u.Front, &u.Rear, &u.Width, &u.Height, &u.Mass, &u.Steer, &a.X, &a.Limit}; what {
	case 10:
		u.Kind += int(d)
	case 11:
		u.Most += int(d)
	case 12:
		a.Wheels += int(d)
	case 13:
		v.From += int(d)
	case 14:
		v.To += int(d)
	case 15:
		v.Name += strings.Repeat("x", int(d+1))
	case 16:
		u.Axles = append(u.Axles, slices.Repeat(u.Axles[len(u.Axles)-1:], int(d+1))...)
	case 17:
		v.Units = append(v.Units, slices.Repeat(v.Units[:1], int(d+1))...)
	default:
		*numbers[what] += d
	}
	return v
}

// P3.1, P3.8: Parse returns a valid vehicle for its text, and nothing else has this text.
func TestTextAndBack(t *testing.T) {
	r := chance(1)
	for round := range 3600 {
		v := anyVehicle(r, 6, from(r, 100, size))
		s, e := chain.Text(v)
		check(t, "Text", s, e, textOf(v), api.OK)
		got, e := chain.Parse(s)
		checkVehicle(t, "Parse of a text", got, e, v, api.OK)
		other := otherVehicle(v, round%18, from(r, -1, 1))
		if o, e := chain.Text(other); e == api.OK && (o == s) != same(v, other) {
			t.Errorf("%v and %v have the text %q", v, other, s)
		}
	}
}

// P3.8: a text in which one byte is another one, or is there no more, is read as itself, or not at all.
func TestParseOfOtherBytes(t *testing.T) {
	const bytes = "\n -+0159aeloxzA\x00\xff"
	s := strings.Replace(exampleText, "4000 0", "4000 -20", 1)
	for i := range len(s) {
		for k := range len(bytes) {
			for _, other := range []string{s[:i] + bytes[k:k+1] + s[i+1:], s[:i] + bytes[k:k+1] + s[i:], s[:i] + s[i+1:]} {
				v, e := chain.Parse(other)
				if e != api.OK {
					checkVehicle(t, other, v, e, api.Vehicle{}, api.ErrForm)
					continue
				}
				back, e := chain.Text(v)
				check(t, "the text of what was read", back, e, other, api.OK)
			}
		}
	}
}

// P3.8: lines that are left out, doubled or exchanged.
func TestParseOfOtherLines(t *testing.T) {
	lines := strings.SplitAfter(strings.TrimSuffix(exampleText, "\n"), "\n")
	lines[len(lines)-1] += "\n"
	for i := range lines {
		for k := range lines {
			for _, l := range [][]string{slices.Delete(slices.Clone(lines), min(i, k), max(i, k)), slices.Insert(slices.Clone(lines), i, lines[k]), exchanged(lines, i, k)} {
				s := strings.Join(l, "")
				v, e := chain.Parse(s)
				if e != api.OK {
					checkVehicle(t, s, v, e, api.Vehicle{}, api.ErrForm)
					continue
				}
				check(t, "the text of what was read", textOf(v), e, s, api.OK)
			}
		}
	}
}

func exchanged(l []string, i, k int) []string {
	l = slices.Clone(l)
	l[i], l[k] = l[k], l[i]
	return l
}
