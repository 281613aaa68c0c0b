package tests

import (
	"fmt"
	"regexp"
	"slices"
	"strings"
	"testing"

	"loop.example/g00468/impl"
)

// Promise 19: a row has one key, with nothing missing in it.

// How many columns and other ways there are at most, and how many bytes a name has, written anew.
const colLimit, indexLimit, nameLimit = 5, 3, 12

func TestSchemaConstants(t *testing.T) {
	if limits := []int{impl.MaxCols, impl.MaxIndexes}; !slices.Equal(limits, []int{colLimit, indexLimit}) {
		t.Errorf("limits %v", limits)
	}
}

// colOf is a column in which something must stand; nullOf is one that may be nothing.
func colOf(name string, kind int) impl.Col { return impl.Col{Name: name, Kind: kind} }

func nullOf(name string, kind int) impl.Col { return impl.Col{Name: name, Kind: kind, Null: true} }

func plainOf(name string, cols ...int) impl.Index { return impl.Index{Name: name, Cols: cols} }

func uniqueOf(name string, cols ...int) impl.Index {
	return impl.Index{Name: name, Cols: cols, Unique: true}
}

func schemaOf(cols []impl.Col, key []int, indexes ...impl.Index) impl.Schema {
	return impl.Schema{Cols: cols, Key: key, Indexes: indexes}
}

// nameTold, schemaTold, rowTold, partTold and colAtTold answer by the document's words.
var nameForm = regexp.MustCompile(`\A[a-z]{1,12}\z`)

func nameTold(s string) bool { return nameForm.MatchString(s) }

// placesTold says whether list has 1 to most places, no two alike, each of those that is says it of.
func placesTold(list []int, most int, is func(at int) bool) bool {
	for i, at := range list {
		if !is(at) {
			return false
		}
		for _, other := range list[i+1:] {
			if other == at {
				return false
			}
		}
	}
	return len(list) >= 1 && len(list) <= most
}

// namesTold says whether each is a name, and no two are alike.
func namesTold(names []string) bool {
	for i, name := range names {
		if !nameTold(name) || slices.Contains(names[i+1:], name) {
			return false
		}
	}
	return true
}

func schemaTold(s impl.Schema) bool {
	if len(s.Cols) < 1 || len(s.Cols) > colLimit || len(s.Indexes) > indexLimit {
		return false
	}
	cols, indexes := []string{}, []string{}
	for _, c := range s.Cols {
		if c.Kind != 1 && c.Kind != 2 && c.Kind != 3 {
			return false
		}
		cols = append(cols, c.Name)
	}
	isPlace := func(at int) bool { return at >= 0 && at < len(s.Cols) }
	for _, x := range s.Indexes {
		if !placesTold(x.Cols, tupleLimit-1, isPlace) {
			return false
		}
		indexes = append(indexes, x.Name)
	}
	return namesTold(cols) && namesTold(indexes) && placesTold(s.Key, tupleLimit, func(at int) bool { return isPlace(at) && !s.Cols[at].Null })
}

func rowTold(s impl.Schema, row []impl.Value) bool {
	if !schemaTold(s) || len(row) != len(s.Cols) {
		return false
	}
	for i, v := range row {
		isNothing := v == impl.Value{} && s.Cols[i].Null
		if !isNothing && (!okTold(v) || v.Kind != s.Cols[i].Kind) {
			return false
		}
	}
	return true
}

func partTold(row []impl.Value, cols []int) []impl.Value {
	part := []impl.Value{}
	for _, at := range cols {
		if 0 <= at && at < len(row) {
			part = append(part, row[at])
		}
	}
	return part
}

func colAtTold(s impl.Schema, name string) int {
	for i, c := range s.Cols {
		if c.Name == name {
			return i
		}
	}
	return -1
}

func checkName(t *testing.T, s string, want bool) {
	t.Helper()
	if got := impl.ColNameOk(s); got != want {
		t.Fatalf("ColNameOk(%.80q) = %v", s, got)
	}
}

func checkSchema(t *testing.T, s impl.Schema, want bool) {
	t.Helper()
	if got := impl.SchemaOk(s); got != want {
		t.Fatalf("SchemaOk(%#v) = %v", s, got)
	}
}

// checkSchemaAsTold says whether s is SchemaOk.
func checkSchemaAsTold(t *testing.T, s impl.Schema) bool {
	t.Helper()
	checkSchema(t, s, schemaTold(s))
	return schemaTold(s)
}

func checkRow(t *testing.T, s impl.Schema, row []impl.Value, want bool) {
	t.Helper()
	if got := impl.RowOk(s, row); got != want {
		t.Fatalf("RowOk(%#v, %#v) = %v", s, row, got)
	}
}

func checkPart(t *testing.T, row []impl.Value, cols []int, want []impl.Value) {
	t.Helper()
	if got := impl.Project(row, cols); !slices.Equal(got, want) {
		t.Fatalf("Project(%#v, %v) = %#v, want %#v", row, cols, got, want)
	}
}

func checkKey(t *testing.T, s impl.Schema, row []impl.Value, want []impl.Value) {
	t.Helper()
	if got := impl.KeyOfRow(s, row); !slices.Equal(got, want) {
		t.Fatalf("KeyOfRow(%#v, %#v) = %#v, want %#v", s, row, got, want)
	}
}

func checkColAt(t *testing.T, s impl.Schema, name string, want int) {
	t.Helper()
	if got := impl.ColAt(s, name); got != want {
		t.Fatalf("ColAt(%#v, %.80q) = %d, want %d", s, name, got, want)
	}
}

// goodNames and badNames are known by hand; the bad ones have bytes just ahead of a and just behind z.
func goodNames() []string {
	return []string{"a", "z", "m", "id", "az", "za", "aa", "zz", "name", "abcdefghijk", "abcdefghijkl", "zzzzzzzzzzzz", "nopqrstuvwxy"}
}

func badNames() []string {
	return []string{
		"", "A", "Z", "`", "{", "\x00", "\xff", " ", "0", "_", "-", ",", "\n", "\u00e9", "\xe9", "\u0430",
		"Abc", "aBc", "abC", "`bc", "a`c", "ab`", "{bc", "a{c", "ab{", "\x00bc", "a\x00c", "ab\x00", "\xffbc", "a\xffc", "ab\xff", "1bc", "a1c", "ab1", " ab", "a b", "ab ", "ab\n", "\nab", "a\nb", "a,b", "a_b",
		"abcdefghijklm", "zzzzzzzzzzzzz", "abcdefghijkL", "Abcdefghijkl", "abcdefghijk\x00", "abcdefghijkl\x00", "abcdefghijkl\n", "abcdefghijk\u00e9", "\u00e9\u00e9\u00e9\u00e9\u00e9\u00e9", "\u00e9\u00e9\u00e9\u00e9\u00e9\u00e9\u00e9",
		strings.Repeat("a", 24), strings.Repeat("a", 255), strings.Repeat("a", 256), strings.Repeat("a", 257), strings.Repeat("a", 1<<16+5), strings.Repeat("\x00", 12),
	}
}

func TestColNamesByHand(t *testing.T) {
	for _, s := range goodNames() {
		checkName(t, s, true)
	}
	for _, s := range badNames() {
		checkName(t, s, false)
	}
	for _, s := range append(goodNames(), badNames()...) {
		if nameTold(s) != slices.Contains(goodNames(), s) {
			t.Errorf("%.80q is told as %v", s, nameTold(s))
		}
	}
}

// Each byte, at each place of a name of each length.
func TestColNameOfEachByte(t *testing.T) {
	for many := range 15 {
		for _, fill := range []byte("amz") {
			text := slices.Repeat([]byte{fill}, many)
			checkName(t, string(text), many >= 1 && many <= 12)
			for at := range text {
				for b := range 256 {
					text[at] = byte(b)
					checkName(t, string(text), many <= 12 && b >= 97 && b <= 122)
				}
				text[at] = fill
			}
		}
	}
}

func TestColNameOfEachLength(t *testing.T) {
	letters := strings.Repeat("abcdefghijklmnopqrstuvwxyz", 25)
	for many := range 600 {
		checkName(t, letters[:many], many >= 1 && many <= 12)
		checkName(t, letters[25:25+many], many >= 1 && many <= 12)
	}
	for a := range 256 {
		for b := range 256 {
			both := string([]byte{byte(a), byte(b)})
			checkName(t, both, nameTold(both))
		}
	}
}

// wholeSchema has all the columns, places and other ways that there may be, and two columns that may be nothing.
func wholeSchema() impl.Schema {
	cols := []impl.Col{colOf("id", 2), nullOf("name", 3), colOf("on", 1), colOf("abcdefghijkl", 3), colOf("z", 2)}
	return schemaOf(cols, []int{4, 0, 3, 2}, uniqueOf("x", 1), plainOf("id", 4, 1, 0), uniqueOf("zzzzzzzzzzzz", 2, 3))
}

// wholeRow is a row of that.
func wholeRow() []impl.Value {
	return tupleOf(intOf(-7), impl.Value{}, flagOf(1), textOf("a\x00"), intOf(intLimit))
}

// smallSchema has one column, which is its key.
func smallSchema() impl.Schema {
	return schemaOf([]impl.Col{colOf("a", 3)}, []int{0})
}

// goodSchemas are known by hand.
func goodSchemas() []impl.Schema {
	three := []impl.Col{colOf("id", 2), nullOf("name", 3), nullOf("size", 2)}
	five := []impl.Col{colOf("a", 1), colOf("b", 2), colOf("c", 3), colOf("d", 2), colOf("e", 3)}
	return []impl.Schema{
		smallSchema(), wholeSchema(),
		schemaOf([]impl.Col{colOf("z", 1)}, []int{0}), schemaOf([]impl.Col{colOf("abcdefghijkl", 2)}, []int{0}, plainOf("abcdefghijkl", 0)),
		schemaOf([]impl.Col{colOf("a", 3)}, []int{0}, uniqueOf("a", 0), plainOf("b", 0), uniqueOf("c", 0)),
		schemaOf([]impl.Col{nullOf("a", 3), colOf("b", 3)}, []int{1}), schemaOf([]impl.Col{colOf("a", 3), colOf("b", 3)}, []int{1, 0}, plainOf("x", 0, 1), plainOf("y", 1, 0), plainOf("z", 0)),
		schemaOf(three, []int{0}), schemaOf(three, []int{0}, uniqueOf("x", 1), plainOf("y", 2)), schemaOf(three, []int{0}, plainOf("name", 2), plainOf("size", 1), uniqueOf("id", 0)), schemaOf(three, []int{0}, uniqueOf("x", 2, 1, 0)),
		schemaOf(five, []int{0}), schemaOf(five, []int{4}), schemaOf(five, []int{4, 3, 2, 1}), schemaOf(five, []int{0, 1, 2, 3}, plainOf("x", 4, 0, 2), uniqueOf("y", 3, 4, 1), plainOf("z", 4)),
		schemaOf([]impl.Col{nullOf("a", 1), nullOf("b", 2), nullOf("c", 3), nullOf("d", 1), colOf("e", 2)}, []int{4}, uniqueOf("a", 0, 1, 2), uniqueOf("b", 3), uniqueOf("c", 4, 3)),
		{Cols: three, Key: []int{0}, Indexes: []impl.Index{}},
	}
}

// badSchemas are known by hand too, each with one fault.
func badSchemas() map[string]impl.Schema {
	one, two := []impl.Col{colOf("a", 3)}, []impl.Col{colOf("a", 3), nullOf("b", 2)}
	six := []impl.Col{colOf("a", 1), colOf("b", 2), colOf("c", 3), colOf("d", 2), colOf("e", 3), colOf("f", 1)}
	return map[string]impl.Schema{
		"nothing": {}, "no columns": {Cols: []impl.Col{}, Key: []int{}}, "no columns, a key": {Key: []int{0}}, "no columns, a key and a way": schemaOf(nil, []int{0}, plainOf("x", 0)), "too many columns": schemaOf(six, []int{0}), "too many columns, a key of the last": schemaOf(six, []int{5}),
		"no name": schemaOf([]impl.Col{colOf("", 3)}, []int{0}), "a strange name": schemaOf([]impl.Col{colOf("A", 3)}, []int{0}), "a long name": schemaOf([]impl.Col{colOf("abcdefghijklm", 3)}, []int{0}), "a strange name outside the key": schemaOf([]impl.Col{colOf("a", 3), nullOf("b1", 3)}, []int{0}),
		"two of one name": schemaOf([]impl.Col{colOf("a", 3), colOf("a", 3)}, []int{0}), "two of one name, of other kinds": schemaOf([]impl.Col{colOf("a", 3), nullOf("a", 2)}, []int{0}), "two of one name, one may be nothing": schemaOf([]impl.Col{nullOf("a", 3), colOf("a", 3)}, []int{1}), "two of one name far apart": schemaOf([]impl.Col{colOf("a", 3), colOf("b", 3), colOf("c", 3), colOf("d", 3), colOf("a", 3)}, []int{1}),
		"the kind of nothing": schemaOf([]impl.Col{colOf("a", 0)}, []int{0}), "the kind of nothing, which may be": schemaOf([]impl.Col{colOf("a", 3), nullOf("b", 0)}, []int{0}), "a kind behind": schemaOf([]impl.Col{colOf("a", 4)}, []int{0}), "a kind ahead": schemaOf([]impl.Col{colOf("a", -1)}, []int{0}), "a kind outside the key": schemaOf([]impl.Col{colOf("a", 3), colOf("b", 4)}, []int{0}),
		"no key": schemaOf(one, nil), "an empty key": schemaOf(one, []int{}), "a long key": schemaOf(six[:5], []int{0, 1, 2, 3, 4}), "a key of no place": schemaOf(one, []int{-1}), "a key behind": schemaOf(one, []int{1}), "a key far behind": schemaOf(one, []int{most}), "a key far ahead": schemaOf(one, []int{least}), "a key twice": schemaOf(one, []int{0, 0}), "a key twice, apart": schemaOf(six[:3], []int{1, 0, 1}), "a key that may be nothing": schemaOf(two, []int{1}), "a key that may be nothing in part": schemaOf(two, []int{0, 1}), "a key by half": schemaOf(two, []int{0, 2}),
		"too many ways": schemaOf(one, []int{0}, plainOf("a", 0), plainOf("b", 0), plainOf("c", 0), plainOf("d", 0)), "a way of no name": schemaOf(one, []int{0}, plainOf("", 0)), "a way of a strange name": schemaOf(one, []int{0}, plainOf("X", 0)), "a way of a long name": schemaOf(one, []int{0}, uniqueOf("abcdefghijklm", 0)), "two ways of one name": schemaOf(two, []int{0}, plainOf("x", 0), uniqueOf("x", 1)), "two ways of one name, apart": schemaOf(two, []int{0}, plainOf("x", 0), plainOf("y", 0), plainOf("x", 0)),
		"a way by nothing": schemaOf(one, []int{0}, plainOf("x")), "a way by an empty list": schemaOf(one, []int{0}, plainOf("x", []int{}...)), "a way by all that a key may have": schemaOf(six[:5], []int{0}, plainOf("x", 0, 1, 2, 3)), "a way by no place": schemaOf(one, []int{0}, plainOf("x", -1)), "a way behind": schemaOf(one, []int{0}, plainOf("x", 1)), "a way twice": schemaOf(one, []int{0}, plainOf("x", 0, 0)), "a way far behind": schemaOf(two, []int{0}, plainOf("x", 0, most)), "a way far ahead": schemaOf(two, []int{0}, plainOf("x", least, 0)), "a way twice, apart": schemaOf(six[:3], []int{0}, plainOf("x", 2, 1, 2)), "a later way": schemaOf(two, []int{0}, plainOf("x", 0), plainOf("y", 1), plainOf("z", 2)),
	}
}

func TestSchemasByHand(t *testing.T) {
	for _, s := range goodSchemas() {
		checkSchema(t, s, true)
		if !schemaTold(s) {
			t.Errorf("%#v is told as bad", s)
		}
	}
	for name, s := range badSchemas() {
		if impl.SchemaOk(s) || schemaTold(s) {
			t.Errorf("%s: SchemaOk is %v, told %v", name, impl.SchemaOk(s), schemaTold(s))
		}
	}
}

// colsOf has so many columns, of each kind, none of which may be nothing.
func colsOf(many int) []impl.Col {
	cols := make([]impl.Col, many)
	for i := range cols {
		cols[i] = colOf(strings.Repeat("k", i/26%12)+string([]byte{byte('a' + i%26)}), 1+i%3)
	}
	return cols
}

func TestSchemaOfSoManyCols(t *testing.T) {
	for many := range 40 {
		for _, at := range []int{0, many - 1, 4, 5} {
			checkSchema(t, schemaOf(colsOf(many), []int{at}), many >= 1 && many <= 5 && at < many)
		}
	}
	for _, many := range []int{255, 256, 257, 258, 1<<16 + 1, 1<<16 + 3} {
		checkSchema(t, schemaOf(colsOf(many), []int{0}), false)
		checkSchema(t, schemaOf(make([]impl.Col, many), []int{0}), false)
	}
	checkSchema(t, schemaOf(nil, nil), false)
	checkSchema(t, schemaOf([]impl.Col{}, []int{}), false)
	checkSchema(t, schemaOf(make([]impl.Col, 0, 5), []int{0}), false)
}

// Each name, at each place among columns, and among the other ways.
func TestSchemaWithEachName(t *testing.T) {
	for _, name := range append(goodNames(), badNames()...) {
		for many := 1; many <= 5; many++ {
			for at := range many {
				cols := slices.Clone([]impl.Col{colOf("q", 1), colOf("r", 2), colOf("s", 3), colOf("t", 1), colOf("u", 2)}[:many])
				cols[at].Name = name
				for _, null := range []bool{false, true} {
					cols[at].Null = null
					checkSchema(t, schemaOf(cols, []int{(at + 1) % many}), nameTold(name) && (many > 1 || !null))
				}
			}
		}
		for many := 1; many <= 3; many++ {
			for at := range many {
				ways := slices.Clone([]impl.Index{plainOf("q", 0), uniqueOf("r", 0), plainOf("s", 0)}[:many])
				ways[at].Name = name
				checkSchema(t, schemaOf(colsOf(2), []int{0}, ways...), nameTold(name))
			}
		}
	}
}

// Two columns of one name, or two ways, at each two places; a column and a way may be called alike.
func TestSchemaWithOneNameTwice(t *testing.T) {
	for many := 1; many <= 5; many++ {
		for i := range many {
			for j := range many {
				cols := colsOf(many)
				cols[i].Name = cols[j].Name
				checkSchema(t, schemaOf(cols, []int{0}), i == j)
				cols[i] = cols[j]
				checkSchema(t, schemaOf(cols, []int{0}), i == j)
				cols[i].Null, cols[i].Kind = many > 1, 1+cols[i].Kind%3
				checkSchemaAsTold(t, schemaOf(cols, []int{j}))
				checkSchemaAsTold(t, schemaOf(cols, []int{(i + 1) % many}))
			}
		}
	}
	for many := 1; many <= 3; many++ {
		for i := range many {
			for j := range many {
				ways := []impl.Index{plainOf("x", 0), uniqueOf("y", 1), plainOf("z", 0, 1)}[:many]
				ways[i].Name = ways[j].Name
				checkSchema(t, schemaOf(colsOf(2), []int{0}, ways...), i == j)
				ways[i] = ways[j]
				checkSchema(t, schemaOf(colsOf(2), []int{0}, ways...), i == j)
			}
			for _, c := range colsOf(5) {
				ways := []impl.Index{plainOf("x", 0), uniqueOf("y", 1), plainOf("z", 0, 1)}[:many]
				ways[i].Name = c.Name
				checkSchema(t, schemaOf(colsOf(5), []int{0}, ways...), true)
			}
		}
	}
	// Names that begin alike, or end alike, are two.
	checkSchema(t, schemaOf([]impl.Col{colOf("a", 1), colOf("aa", 1), colOf("aaa", 1), colOf("ab", 1), colOf("ba", 1)}, []int{0}, plainOf("a", 0), plainOf("aa", 0), plainOf("aaa", 0)), true)
}

func TestSchemaWithEachKind(t *testing.T) {
	for _, kind := range append(edges(), 255, 256, 257, 258, 259, 1<<16+1, 1<<32+1, 1<<32+3, 1<<62+2, least+1, least+2, most-1) {
		for many := 1; many <= 5; many++ {
			for at := range many {
				for _, null := range []bool{false, true} {
					cols := colsOf(many)
					cols[at].Kind, cols[at].Null = kind, null
					checkSchema(t, schemaOf(cols, []int{(at + 1) % many}), kind >= 1 && kind <= 3 && (many > 1 || !null))
				}
			}
		}
	}
}

// numListsFrom tells all lists of up to so many of nums behind list.
func numListsFrom(nums []int, list []int, room int, tell func([]int)) {
	tell(list)
	if room == 0 {
		return
	}
	for _, n := range nums {
		numListsFrom(nums, append(slices.Clone(list), n), room-1, tell)
	}
}

// placesNear has all places of so many columns, the one ahead of them and the one behind.
func placesNear(many int) []int {
	nums := []int{}
	for at := -1; at <= many; at++ {
		nums = append(nums, at)
	}
	return nums
}

// Each list of places as a key, and as what another way goes by, whichever columns may be nothing.
func TestSchemaWithEachListOfPlaces(t *testing.T) {
	keys, ways := 0, 0
	for many := 1; many <= 5; many++ {
		for nulls := range 1 << many {
			cols := colsOf(many)
			for at := range cols {
				cols[at].Null = nulls>>at&1 == 1
			}
			numListsFrom(placesNear(many), nil, 3+b2i(many < 5)+b2i(many < 4), func(list []int) {
				keys += b2i(checkSchemaAsTold(t, schemaOf(cols, list)))
				for at := range cols {
					ways += b2i(checkSchemaAsTold(t, schemaOf(cols, []int{at}, uniqueOf("x", list...))))
				}
			})
		}
	}
	for _, nulls := range []int{0, 1, 2, 16, 20, 31} {
		cols := colsOf(5)
		for at := range cols {
			cols[at].Null = nulls>>at&1 == 1
		}
		numListsFrom(placesNear(5), nil, 5, func(list []int) { keys += b2i(checkSchemaAsTold(t, schemaOf(cols, list))) })
	}
	if keys < 1000 || ways < 5000 {
		t.Errorf("%d keys, %d ways", keys, ways)
	}
}

// How many keys there are of five columns, counted by hand: each of so many that may not be nothing, then another of these.
func TestHowManyKeysThereAre(t *testing.T) {
	for sure, want := range []int{0, 1, 2 + 2, 3 + 6 + 6, 4 + 12 + 24 + 24, 5 + 20 + 60 + 120} {
		cols, found := colsOf(5), 0
		for at := range cols {
			cols[(at*2)%5].Null = at >= sure
		}
		numListsFrom(placesNear(5), nil, 5, func(list []int) { found += b2i(impl.SchemaOk(schemaOf(cols, list))) })
		if found != want {
			t.Errorf("%d keys where %d columns may not be nothing", found, sure)
		}
	}
}

// Far places, beside others and alone, in a key and in another way.
func TestSchemaWithFarPlaces(t *testing.T) {
	for _, far := range append(edges(), 255, 256, 257, 260, 1<<32+1, 1<<32+4, 1<<63-2, least+1, least+4) {
		is := far >= 0 && far < 5
		for many := range 4 {
			for at := range many + 1 {
				list := slices.Insert(slices.DeleteFunc([]int{0, 1, 2, 3, 4}, func(n int) bool { return n == far })[:many], at, far)
				checkSchema(t, schemaOf(colsOf(5), list), is)
				checkSchema(t, schemaOf(colsOf(5), []int{0}, plainOf("x", 0), plainOf("y", list...)), is && len(list) <= 3)
			}
		}
	}
	for _, many := range []int{5, 6, 16, 255, 256, 257, 259, 1 << 16, 1<<16 + 1} {
		list := make([]int, many)
		for i := range list {
			list[i] = i
		}
		checkSchema(t, schemaOf(colsOf(5), list), false)
		checkSchema(t, schemaOf(colsOf(5), []int{0}, plainOf("x", list...)), false)
		checkSchema(t, schemaOf(colsOf(5), make([]int, many)), false)
	}
}

// A way of each fault, at each place among ways that have none; and so many ways.
func TestSchemaWithABadWay(t *testing.T) {
	for _, list := range [][]int{nil, {}, {-1}, {5}, {0, 0}, {0, 1, 2, 3}, {4, 3, 4}, {least}, {most, 0}, {0, 5}} {
		for many := 1; many <= 3; many++ {
			for at := range many {
				for _, unique := range []bool{false, true} {
					ways := []impl.Index{plainOf("x", 4), uniqueOf("y", 1, 0), plainOf("z", 0, 1, 2)}[:many]
					checkSchema(t, schemaOf(colsOf(5), []int{0}, ways...), true)
					ways[at].Cols, ways[at].Unique = list, unique
					checkSchema(t, schemaOf(colsOf(5), []int{0}, ways...), false)
				}
			}
		}
	}
	for many := range 300 {
		ways := make([]impl.Index, many)
		for i := range ways {
			ways[i] = impl.Index{Name: colsOf(i + 1)[i].Name, Cols: []int{i % 5, (i + 1) % 5, (i + 2) % 5}[:1+i%3], Unique: i%2 == 0}
		}
		checkSchema(t, schemaOf(colsOf(5), []int{0}, ways...), many <= 3)
		checkSchema(t, schemaOf(colsOf(5), []int{0}, make([]impl.Index, many)...), many == 0)
	}
}

// anySchema is one with few names and places, so that much of it is alike; in most of them at most one thing is wrong.
func anySchema(d *dice) impl.Schema {
	all := goodSchemas()
	s := cloneOf(all[d.roll(len(all))])
	for range d.roll(4) {
		turnSchema(d, &s)
	}
	return s
}

// cloneOf has s in lists and texts of its own.
func cloneOf(s impl.Schema) impl.Schema {
	s.Cols, s.Key, s.Indexes = slices.Clone(s.Cols), slices.Clone(s.Key), slices.Clone(s.Indexes)
	for i := range s.Cols {
		s.Cols[i].Name = strings.Clone(s.Cols[i].Name)
	}
	for i := range s.Indexes {
		s.Indexes[i].Name, s.Indexes[i].Cols = strings.Clone(s.Indexes[i].Name), slices.Clone(s.Indexes[i].Cols)
	}
	return s
}

// turnSchema turns one thing of s.
func turnSchema(d *dice, s *impl.Schema) {
	names := []string{"a", "b", "id", "name", "x", "y", "z", "abcdefghijkl", "", "A", "abcdefghijklm", "a\xff"}
	name := names[d.roll(len(names))]
	at := func(many int) int { return d.roll(max(many, 1)) }
	switch d.roll(9) {
	case 0:
		s.Cols = append(s.Cols, impl.Col{Name: name, Kind: d.roll(5), Null: d.roll(2) == 0})
	case 1:
		s.Cols = s.Cols[:at(len(s.Cols))]
	case 2:
		if len(s.Cols) > 0 {
			s.Cols[at(len(s.Cols))].Name = name
		}
	case 3:
		if len(s.Cols) > 0 {
			s.Cols[at(len(s.Cols))] = impl.Col{Name: name, Kind: d.roll(5), Null: d.roll(2) == 0}
		}
	case 4:
		s.Key = append(s.Key, d.roll(6))
	case 5:
		s.Key = s.Key[at(len(s.Key)):]
	case 6:
		s.Indexes = append(s.Indexes, impl.Index{Name: name, Cols: []int{d.roll(5), d.roll(6)}[d.roll(2):], Unique: d.roll(2) == 0})
	case 7:
		s.Indexes = s.Indexes[:at(len(s.Indexes))]
	case 8:
		if len(s.Indexes) > 0 {
			x := &s.Indexes[at(len(s.Indexes))]
			x.Cols = append(x.Cols, d.roll(6))
		}
	}
}

func TestAnySchema(t *testing.T) {
	d, good := dice(19), 0
	for range 100000 {
		good += b2i(checkSchemaAsTold(t, anySchema(&d)))
	}
	if good < 20000 || good > 80000 {
		t.Errorf("%d of 100000 are SchemaOk", good)
	}
}

func TestRowsOfSchemasByHand(t *testing.T) {
	null := impl.Value{}
	whole := wholeSchema()
	for _, row := range [][]impl.Value{
		wholeRow(), tupleOf(intOf(0), textOf(""), flagOf(0), textOf(""), intOf(0)), tupleOf(intOf(intLimit), textOf(longText(20)), flagOf(1), textOf(longText(20)), intOf(-intLimit)), tupleOf(intOf(1), textOf("\x00"), flagOf(0), textOf("\xff"), intOf(1)),
	} {
		checkRow(t, whole, row, true)
	}
	for _, row := range [][]impl.Value{
		nil, {}, wholeRow()[:4], wholeRow()[:1], append(wholeRow(), null), append(wholeRow(), intOf(1)),
		tupleOf(null, textOf("a"), flagOf(0), textOf("a"), intOf(0)), tupleOf(intOf(0), textOf("a"), null, textOf("a"), intOf(0)), tupleOf(intOf(0), textOf("a"), flagOf(0), null, intOf(0)), tupleOf(intOf(0), textOf("a"), flagOf(0), textOf("a"), null), tupleOf(null, null, null, null, null),
		tupleOf(intOf(0), intOf(0), flagOf(0), textOf("a"), intOf(0)), tupleOf(intOf(0), flagOf(0), flagOf(0), textOf("a"), intOf(0)), tupleOf(flagOf(0), null, flagOf(0), textOf("a"), intOf(0)), tupleOf(textOf("0"), null, flagOf(0), textOf("a"), intOf(0)), tupleOf(intOf(0), null, intOf(0), textOf("a"), intOf(0)), tupleOf(intOf(0), null, intOf(1), textOf("a"), intOf(1)),
		tupleOf(intOf(0), valueOf(0, 1, ""), flagOf(0), textOf("a"), intOf(0)), tupleOf(intOf(0), valueOf(0, 0, "a"), flagOf(0), textOf("a"), intOf(0)), tupleOf(intOf(0), null, flagOf(2), textOf("a"), intOf(0)), tupleOf(intOf(0), null, flagOf(0), textOf(longText(21)), intOf(0)), tupleOf(intOf(0), textOf(longText(21)), flagOf(0), textOf("a"), intOf(0)), tupleOf(intOf(intLimit+1), null, flagOf(0), textOf("a"), intOf(0)), tupleOf(valueOf(2, 0, "a"), null, flagOf(0), textOf("a"), intOf(0)),
	} {
		checkRow(t, whole, row, false)
	}
	small := smallSchema()
	checkRow(t, small, tupleOf(textOf("")), true)
	checkRow(t, small, tupleOf(null), false)
	checkRow(t, small, nil, false)
	checkRow(t, small, tupleOf(textOf(""), textOf("")), false)
}

// Where s is not SchemaOk nothing is a row of it: neither what would be one if it were, nor nothing.
func TestRowsOfWhatIsNoSchema(t *testing.T) {
	for _, s := range badSchemas() {
		row := []impl.Value{}
		for _, c := range s.Cols {
			row = append(row, valueOf(c.Kind, 0, ""))
		}
		for _, row := range [][]impl.Value{nil, {}, row, make([]impl.Value, len(s.Cols)), wholeRow(), tupleOf(textOf("")), tupleOf(textOf("a"), impl.Value{}), make([]impl.Value, 99)} {
			checkRow(t, s, row, false)
		}
	}
	// One fault at a time, in a schema that has all that there may be.
	for _, turn := range []func(s *impl.Schema){
		func(s *impl.Schema) { s.Cols[1].Name = "id" }, func(s *impl.Schema) { s.Cols[1].Name = "Name" }, func(s *impl.Schema) { s.Key = nil }, func(s *impl.Schema) { s.Key[1] = 1 }, func(s *impl.Schema) { s.Key[0] = 0 }, func(s *impl.Schema) { s.Cols[4].Null = true },
		func(s *impl.Schema) { s.Key[0] = 5 }, func(s *impl.Schema) { s.Key = append(s.Key, 1) }, func(s *impl.Schema) { s.Indexes[2].Cols = nil }, func(s *impl.Schema) { s.Indexes[2].Name = "x" }, func(s *impl.Schema) { s.Indexes = append(s.Indexes, plainOf("y", 0)) }, func(s *impl.Schema) { s.Indexes[0].Cols[0] = 5 },
	} {
		s := wholeSchema()
		checkRow(t, s, wholeRow(), true)
		turn(&s)
		checkRow(t, s, wholeRow(), false)
	}
}

// Each value at each place, where it may be nothing and where it may not.
func TestRowWithEachValue(t *testing.T) {
	for many := 1; many <= 5; many++ {
		row := tupleOf(flagOf(1), intOf(5), textOf("a"), flagOf(0), intOf(-5))[:many]
		for at := range many {
			for kind := 1; kind <= 3; kind++ {
				for _, null := range []bool{false, true} {
					cols := colsOf(many)
					cols[at].Kind, cols[at].Null = kind, null && many > 1
					s := schemaOf(cols, []int{(at + 1) % many})
					for _, v := range append(goodValues(), badValues()...) {
						other := slices.Clone(row)
						other[at] = v
						checkRow(t, s, other, okTold(v) && (v.Kind == kind || v.Kind == 0 && null && many > 1))
						checkRow(t, s, other[:many-1], false)
						checkRow(t, s, append(other, v), false)
					}
				}
			}
		}
	}
}

func TestRowsOfEachLength(t *testing.T) {
	for many := 1; many <= 5; many++ {
		cols := colsOf(many)
		for at := range cols {
			cols[at].Kind, cols[at].Null = 2, at > 0
		}
		s := schemaOf(cols, []int{0})
		for _, behind := range []impl.Value{{}, intOf(7)} {
			for n := range 300 {
				row := append(tupleOf(intOf(5)), slices.Repeat(tupleOf(behind), 300)...)[:n]
				checkRow(t, s, row, n == many)
				checkRow(t, s, row[:n:n], n == many)
			}
		}
	}
}

func TestProjectByHand(t *testing.T) {
	a, b, c, null := textOf("a"), intOf(5), flagOf(1), impl.Value{}
	row := tupleOf(a, b, c, null)
	for _, c := range []struct {
		row  []impl.Value
		cols []int
		want []impl.Value
	}{
		{row, nil, nil}, {row, []int{}, nil}, {row, []int{0}, tupleOf(a)}, {row, []int{1}, tupleOf(b)}, {row, []int{3}, tupleOf(null)}, {row, []int{0, 1, 2, 3}, row}, {row, []int{3, 2, 1, 0}, tupleOf(null, c, b, a)}, {row, []int{2, 0}, tupleOf(c, a)},
		{row, []int{1, 1}, tupleOf(b, b)}, {row, []int{0, 1, 0, 1, 0}, tupleOf(a, b, a, b, a)}, {row, []int{3, 3, 3}, tupleOf(null, null, null)},
		{row, []int{-1}, nil}, {row, []int{4}, nil}, {row, []int{least}, nil}, {row, []int{most}, nil}, {row, []int{-1, 4, least, most}, nil}, {row, []int{2, 9, 0}, tupleOf(c, a)}, {row, []int{-1, 0, 4, 1, least, 2, most, 3}, row}, {row, []int{0, -1, 0}, tupleOf(a, a)}, {row, []int{4, 1}, tupleOf(b)}, {row, []int{1, -1}, tupleOf(b)}, {row, []int{-4, -3, -2, -1}, nil},
		{nil, nil, nil}, {nil, []int{0}, nil}, {nil, []int{-1, 0, 1, least, most}, nil}, {[]impl.Value{}, []int{0, 0}, nil}, {row[:2], []int{2, 1, 3}, tupleOf(b)}, {row[:0], []int{0}, nil}, {tupleOf(a), []int{0, 1, -1}, tupleOf(a)},
		{tupleOf(valueOf(-1, 9, "z"), valueOf(4, least, ""), valueOf(0, 1, "")), []int{2, 0, 1, 3}, tupleOf(valueOf(0, 1, ""), valueOf(-1, 9, "z"), valueOf(4, least, ""))},
	} {
		checkPart(t, c.row, c.cols, c.want)
		if !slices.Equal(partTold(c.row, c.cols), c.want) {
			t.Errorf("%#v at %v is told as %#v", c.row, c.cols, partTold(c.row, c.cols))
		}
	}
}

func TestProjectOfEachListOfPlaces(t *testing.T) {
	whole := append(wholeRow(), valueOf(9, 9, "z"))
	for many := range 6 {
		numListsFrom(append(placesNear(many), least, most), nil, 4, func(list []int) {
			checkPart(t, whole[:many], list, partTold(whole[:many], list))
			checkPart(t, whole[:many:many], list, partTold(whole[:many], list))
		})
	}
	for _, far := range append(edges(), 255, 256, 257, 1<<32, 1<<32+1, 1<<63-2, least+1) {
		checkPart(t, wholeRow(), []int{far}, partTold(wholeRow(), []int{far}))
		checkPart(t, wholeRow(), []int{1, far, 0}, partTold(wholeRow(), []int{1, far, 0}))
	}
}

// Rows that are too long to be one, more places than there are, and values that are none: they are not asked what they are.
func TestProjectOfLongRows(t *testing.T) {
	row, back := make([]impl.Value, 70000), make([]int, 70000)
	for i := range row {
		row[i] = valueOf(i, -i, fmt.Sprint(i))
		back[i] = len(row) - 1 - i
	}
	want := slices.Clone(row)
	slices.Reverse(want)
	checkPart(t, row, back, want)
	checkPart(t, row[:5], back, want[len(want)-5:])
	checkPart(t, row, back[:1], want[:1])
	for _, v := range append(goodValues(), badValues()...) {
		checkPart(t, tupleOf(v), []int{0, 0}, tupleOf(v, v))
		checkPart(t, tupleOf(intOf(1), v, intOf(2)), []int{2, 1}, tupleOf(intOf(2), v))
	}
}

func TestKeysByHand(t *testing.T) {
	row := wholeRow()
	for _, c := range []struct {
		key  []int
		want []impl.Value
	}{
		{[]int{0}, tupleOf(intOf(-7))}, {[]int{4}, tupleOf(intOf(intLimit))}, {[]int{3}, tupleOf(textOf("a\x00"))}, {[]int{2, 0}, tupleOf(flagOf(1), intOf(-7))}, {[]int{0, 2}, tupleOf(intOf(-7), flagOf(1))}, {[]int{4, 0, 3, 2}, tupleOf(intOf(intLimit), intOf(-7), textOf("a\x00"), flagOf(1))}, {[]int{0, 2, 3, 4}, tupleOf(intOf(-7), flagOf(1), textOf("a\x00"), intOf(intLimit))},
	} {
		s := wholeSchema()
		s.Key = c.key
		checkRow(t, s, row, true)
		checkKey(t, s, row, c.want)
	}
	checkKey(t, smallSchema(), tupleOf(textOf("")), tupleOf(textOf("")))
}

// The chapter names no answer where it is no schema, or no row of it: what stands at the places of the key is told.
func TestKeysOfWhatIsNoRow(t *testing.T) {
	for name, s := range badSchemas() {
		for _, row := range [][]impl.Value{nil, {}, wholeRow(), wholeRow()[:1], tupleOf(textOf("a")), badValues()} {
			if got, want := impl.KeyOfRow(s, row), partTold(row, s.Key); !slices.Equal(got, want) {
				t.Errorf("%s: KeyOfRow of %#v is %#v, not %#v", name, row, got, want)
			}
		}
	}
	whole, null := wholeSchema(), impl.Value{}
	for _, row := range [][]impl.Value{
		nil, {}, wholeRow()[:1], wholeRow()[:3], wholeRow()[:4], append(wholeRow(), intOf(1)), tupleOf(null, null, null, null, null), tupleOf(intOf(intLimit+1), textOf(longText(21)), flagOf(2), valueOf(3, 1, "a"), valueOf(-1, 0, "")), badValues(), goodValues(),
	} {
		checkKey(t, whole, row, partTold(row, []int{4, 0, 3, 2}))
	}
	checkKey(t, whole, wholeRow()[:1], tupleOf(intOf(-7)))
	checkKey(t, whole, nil, nil)
	checkKey(t, impl.Schema{}, wholeRow(), nil)
	checkKey(t, impl.Schema{Key: []int{1, 1, -1, 0}}, wholeRow(), tupleOf(null, null, intOf(-7)))
}

func TestColAtByHand(t *testing.T) {
	whole := wholeSchema()
	for i, name := range []string{"id", "name", "on", "abcdefghijkl", "z"} {
		checkColAt(t, whole, name, i)
	}
	for _, name := range []string{"", "x", "zzzzzzzzzzzz", "i", "d", "idd", "ids", "ID", "Id", "nam", "names", "name\x00", "\x00name", "name ", " name", "o", "onn", "abcdefghijk", "abcdefghijklm", "zz", "Z", "\xff", "\x00", "0", "-1", strings.Repeat("a", 1<<16)} {
		checkColAt(t, whole, name, -1)
	}
	for _, s := range []impl.Schema{{}, {Cols: []impl.Col{}}, {Key: []int{0}, Indexes: []impl.Index{plainOf("x", 0)}}} {
		for _, name := range []string{"", "x", "id", "\x00"} {
			checkColAt(t, s, name, -1)
		}
	}
}

// The chapter asks for the column of that name alone: not whether it could be called so, or whether it is SchemaOk. Of several the first is told.
func TestColAtOfWhatIsNoSchema(t *testing.T) {
	names := append(badNames(), goodNames()...)
	cols := []impl.Col{}
	for _, name := range names {
		cols = append(cols, impl.Col{Name: name, Kind: 9, Null: true})
	}
	s := schemaOf(cols, nil)
	for i, name := range names {
		checkColAt(t, s, name, i)
	}
	checkColAt(t, s, "nobody", -1)
	checkColAt(t, s, "", 0)
	many := schemaOf(colsOf(300), []int{0})
	for i, c := range many.Cols {
		checkColAt(t, many, c.Name, colAtTold(many, c.Name))
		checkColAt(t, schemaOf(many.Cols[i:], nil), c.Name, 0)
		checkColAt(t, schemaOf(many.Cols[:i], nil), c.Name, colAtTold(schemaOf(many.Cols[:i], nil), c.Name))
	}
	twice := schemaOf([]impl.Col{colOf("c", 1), colOf("a", 1), colOf("b", 2), nullOf("a", 3), colOf("b", 3)}, []int{0})
	for range 50 {
		checkColAt(t, twice, "a", 1)
		checkColAt(t, twice, "b", 2)
		checkColAt(t, twice, "c", 0)
	}
}

// anyRowOf is a row of s, if it is SchemaOk; its values are few, so that many rows are alike.
func anyRowOf(d *dice, s impl.Schema) []impl.Value {
	row := []impl.Value{}
	for _, c := range s.Cols {
		v := []impl.Value{{}, flagOf(d.roll(2)), intOf(d.roll(3) - 1), textOf([]string{"", "a", "\x00"}[d.roll(3)])}[min(max(c.Kind, 0), 3)]
		if c.Null && d.roll(3) == 0 {
			v = impl.Value{}
		}
		row = append(row, v)
	}
	return row
}

// turnRow turns one thing of row.
func turnRow(d *dice, row []impl.Value) []impl.Value {
	good, bad := fewInOrder(), tupleOf(valueOf(0, 1, ""), valueOf(0, 0, "a"), flagOf(2), intOf(intLimit+1), valueOf(2, 0, "a"), valueOf(3, 1, ""), textOf(longText(21)), valueOf(4, 0, ""), valueOf(-1, 0, ""))
	switch at := d.roll(max(len(row), 1)); d.roll(5) {
	case 0:
		return append(row, good[d.roll(len(good))])
	case 1:
		return row[:at]
	case 2:
		return slices.Insert(row, at*b2i(at < len(row)), bad[d.roll(len(bad))])
	case 3:
		if at < len(row) {
			row[at] = good[d.roll(len(good))]
		}
	case 4:
		if at < len(row) {
			row[at] = impl.Value{}
		}
	}
	return row
}

// Of a row that is RowOk the key has all that it is to have, and nothing is missing in it; rows that are alike in that have one key.
func TestARowHasOneKey(t *testing.T) {
	d, good := dice(91), 0
	for range 60000 {
		s := anySchema(&d)
		row := anyRowOf(&d, s)
		for range d.roll(3) {
			row = turnRow(&d, row)
		}
		checkRow(t, s, row, rowTold(s, row))
		checkKey(t, s, row, partTold(row, s.Key))
		for _, c := range append(slices.Clone(s.Cols), colOf("nobody", 1)) {
			checkColAt(t, s, c.Name, colAtTold(s, c.Name))
		}
		if rowTold(s, row) {
			good++
			checkWholeKey(t, s, row)
		}
	}
	if good < 10000 || good > 50000 {
		t.Errorf("%d of 60000 are RowOk", good)
	}
}

func checkWholeKey(t *testing.T, s impl.Schema, row []impl.Value) {
	t.Helper()
	key := impl.KeyOfRow(s, row)
	if len(key) != len(s.Key) || !impl.TupleOk(key) {
		t.Fatalf("the key of %#v by %v is %#v", row, s.Key, key)
	}
	for i, v := range key {
		if v.Kind == 0 || !impl.ValueOk(v) || v != row[s.Key[i]] {
			t.Fatalf("in the key of %#v by %v is %#v", row, s.Key, v)
		}
	}
	for range 3 {
		checkRow(t, cloneOf(s), anew(row), true)
		checkKey(t, cloneOf(s), anew(row), key)
	}
	// What stands outside the key, and the names and ways, say nothing of it.
	other := anew(row)
	for at := range other {
		if !slices.Contains(s.Key, at) {
			other[at] = valueOf(s.Cols[at].Kind, 1, "")
		}
	}
	checkKey(t, impl.Schema{Cols: s.Cols[:1], Key: s.Key}, other, key)
}

// Each map is gone through in an order of its own: what is answered does not hang on that.
func TestSchemasAnswerAlikeAgainAndAgain(t *testing.T) {
	for _, s := range goodSchemas() {
		for range 60 {
			checkSchema(t, s, true)
			for i, c := range s.Cols {
				checkColAt(t, s, c.Name, i)
			}
		}
	}
	for name, s := range badSchemas() {
		for range 60 {
			if impl.SchemaOk(s) {
				t.Fatalf("%s is SchemaOk", name)
			}
		}
	}
	for range 200 {
		checkRow(t, wholeSchema(), wholeRow(), true)
		checkKey(t, wholeSchema(), wholeRow(), tupleOf(intOf(intLimit), intOf(-7), textOf("a\x00"), flagOf(1)))
	}
}

// Promise 27, of this chapter's functions: what is handed in is as it was, what is answered is new memory, and nothing is kept.

// A heldSchema is a schema whose lists and names lie in rooms that are looked at.
type heldSchema struct {
	schema impl.Schema
	rooms  [][]byte
}

func (h *heldSchema) name(s string) string {
	room := []byte(s + "behind")
	h.rooms = append(h.rooms, room)
	return heldIn(room, len(s))
}

func heldSchemaOf(s impl.Schema) heldSchema {
	h := heldSchema{}
	h.schema = impl.Schema{Cols: roomy(s.Cols, nullOf("behind", 97)), Key: roomy(s.Key, 98), Indexes: roomy(s.Indexes, plainOf("behind", 99))}
	for i, c := range s.Cols {
		h.schema.Cols[i].Name = h.name(c.Name)
	}
	for i, x := range s.Indexes {
		h.schema.Indexes[i].Name, h.schema.Indexes[i].Cols = h.name(x.Name), roomy(x.Cols, 96)
	}
	return h
}

// text tells all that is held, with the room behind each list and each name.
func (h heldSchema) text() string {
	s := h.schema
	told := fmt.Sprintf("%d %#v %d %v %d %#v %q", len(s.Cols), s.Cols[:cap(s.Cols)], len(s.Key), s.Key[:cap(s.Key)], len(s.Indexes), s.Indexes[:cap(s.Indexes)], h.rooms)
	for _, x := range s.Indexes {
		told += fmt.Sprint(len(x.Cols), x.Cols[:cap(x.Cols)])
	}
	return told
}

func someSchemas() []impl.Schema {
	all := goodSchemas()
	for _, s := range badSchemas() {
		all = append(all, s)
	}
	return all
}

func TestSchemasAreNotWrittenInto(t *testing.T) {
	for _, s := range someSchemas() {
		for _, list := range [][]impl.Value{nil, wholeRow(), wholeRow()[:1], tupleOf(textOf("a")), badValues()} {
			held, row, name := heldSchemaOf(s), heldTupleOf(list), []byte("abcdefghijkl\x00")
			cols := withRoom([]int{2, 0, -1, 0})
			before, rowBefore := held.text(), row.text()
			impl.ColNameOk(heldIn(name, 12))
			impl.ColAt(held.schema, heldIn(name, 12))
			impl.SchemaOk(held.schema)
			impl.RowOk(held.schema, row.list)
			part, key := impl.Project(row.list, cols[:4]), impl.KeyOfRow(held.schema, row.list)
			if held.text() != before || row.text() != rowBefore || string(name) != "abcdefghijkl\x00" || !slices.Equal(cols, withRoom([]int{2, 0, -1, 0})) {
				t.Fatalf("%s and %s became %s and %s", before, rowBefore, held.text(), row.text())
			}
			row.fill()
			for _, list := range [][]int{held.schema.Key, cols} {
				for i := range list[:cap(list)] {
					list[:cap(list)][i] = 1
				}
			}
			if !slices.Equal(part, partTold(list, []int{2, 0, -1, 0})) || !slices.Equal(key, partTold(list, s.Key)) {
				t.Fatalf("what was answered of %#v became %#v, %#v", list, part, key)
			}
		}
	}
}

// What stands behind a list is not looked at, however much room there is.
func TestRoomBehindSchemasIsNotLookedAt(t *testing.T) {
	for _, s := range someSchemas() {
		whole, row := heldSchemaOf(s).schema, heldTupleOf(wholeRow()).list
		checkSchema(t, whole, schemaTold(s))
		checkRow(t, whole, row, rowTold(s, row))
		checkColAt(t, whole, "behind", -1)
		checkPart(t, row, []int{5, 6, 7}, nil)
		for many := range len(whole.Cols) {
			checkColAt(t, schemaOf(whole.Cols[:many], nil), s.Cols[many].Name, colAtTold(schemaOf(s.Cols[:many], nil), s.Cols[many].Name))
			checkSchemaAsTold(t, schemaOf(whole.Cols[:many], whole.Key, whole.Indexes...))
		}
		for many := range len(whole.Key) {
			whole.Key = whole.Key[:len(s.Key)-1-many]
			checkSchemaAsTold(t, whole)
			checkKey(t, whole, row, partTold(row, s.Key[:len(whole.Key)]))
		}
	}
}

// Each answer is its own: the whole of one, with the room behind it, can be written over, and all others stay; no text of it lies where another one does.
func TestPartsAreNewMemory(t *testing.T) {
	s, list := wholeSchema(), tupleOf(textOf("a"), textOf(""), textOf(longText(20)), textOf("\x00\x01"), intOf(5))
	for _, cols := range [][]int{{0}, {0, 0}, {0, 1, 2, 3, 4}, {4, 3, 2, 1, 0, 0, 2, 2}, {-1, 2, 9, 3}, {}} {
		row := heldTupleOf(list)
		s.Key = cols
		for _, ask := range []func() []impl.Value{
			func() []impl.Value { return impl.Project(row.list, cols) },
			func() []impl.Value { return impl.KeyOfRow(s, row.list) },
		} {
			first, other := ask(), ask()
			for i := range first[:cap(first)] {
				first[:cap(first)][i] = valueOf(93, 94, "gone")
			}
			third := ask()
			if want := partTold(list, cols); !slices.Equal(other, want) || !slices.Equal(third, want) || !slices.Equal(row.list, list) {
				t.Fatalf("at %v: %#v, then %#v", cols, other, third)
			}
			checkTextsApart(t, row, other, third)
		}
	}
}

func checkTextsApart(t *testing.T, row heldTuple, other []impl.Value, part []impl.Value) {
	t.Helper()
	for i, v := range part {
		for _, room := range row.rooms {
			if sharesBytes(v.S, heldIn(room, len(room))) {
				t.Fatalf("the text %d of %#v lies in the row", i, part)
			}
		}
		for k := range part {
			if sharesBytes(v.S, other[k].S) || i != k && sharesBytes(v.S, part[k].S) {
				t.Fatalf("the text %d of %#v lies in another one", i, part)
			}
		}
	}
}

// schemaCalls has of each function of the chapter what it answers, as one text; schemaCallsTold has the same by the document's words. Neither needs another call of the program.
func schemaCalls() map[string]func() string {
	return schemaCallsBy(impl.ColNameOk, impl.SchemaOk, impl.RowOk, impl.Project, impl.KeyOfRow, impl.ColAt)
}

func schemaCallsTold() map[string]string {
	keyTold := func(s impl.Schema, row []impl.Value) []impl.Value { return partTold(row, s.Key) }
	told := map[string]string{}
	for name, call := range schemaCallsBy(nameTold, schemaTold, rowTold, partTold, keyTold, colAtTold) {
		told[name] = call()
	}
	return told
}

func schemaCallsBy(nameOk func(string) bool, schemaOk func(impl.Schema) bool, rowOk func(impl.Schema, []impl.Value) bool, project func([]impl.Value, []int) []impl.Value, keyOfRow func(impl.Schema, []impl.Value) []impl.Value, colAt func(impl.Schema, string) int) map[string]func() string {
	each := func(tell func(s impl.Schema, row []impl.Value) string) func() string {
		return func() string {
			told := []string{}
			for _, s := range []impl.Schema{smallSchema(), wholeSchema(), goodSchemas()[8], {}, schemaOf(colsOf(6), []int{0}), schemaOf(wholeSchema().Cols, []int{1})} {
				for _, row := range [][]impl.Value{nil, wholeRow(), tupleOf(textOf("a")), tupleOf(intOf(1), impl.Value{}, impl.Value{})} {
					told = append(told, tell(s, row))
				}
			}
			return strings.Join(told, "|")
		}
	}
	valuesText := func(list []impl.Value) string { return fmt.Sprintf("%d %#v", len(list), append(tupleOf(), list...)) }
	return map[string]func() string{
		"ColNameOk": func() string {
			told := ""
			for _, name := range append(goodNames(), badNames()...) {
				told += fmt.Sprint(nameOk(name), " ")
			}
			return told
		},
		"SchemaOk": each(func(s impl.Schema, row []impl.Value) string { return fmt.Sprint(schemaOk(s)) }),
		"RowOk":    each(func(s impl.Schema, row []impl.Value) string { return fmt.Sprint(rowOk(s, row)) }),
		"Project":  each(func(s impl.Schema, row []impl.Value) string { return valuesText(project(row, []int{2, -1, 0, 0, 9})) }),
		"KeyOfRow": each(func(s impl.Schema, row []impl.Value) string { return valuesText(keyOfRow(s, row)) }),
		"ColAt": each(func(s impl.Schema, row []impl.Value) string {
			return fmt.Sprint(colAt(s, "id"), colAt(s, "a"), colAt(s, ""), colAt(s, "x"), colAt(s, "z"))
		}),
	}
}

// Nothing is kept: the same is answered whatever was asked meanwhile.
func TestSchemasAnswerTheSameAtEachCall(t *testing.T) {
	checkSameAtEachCall(t, schemaCalls(), schemaCallsTold())
}

func TestSchemasAheadOfAnyOtherCall(t *testing.T) {
	checkEachCalledFirst(t, schemaCalls(), schemaCallsTold())
}
