package tests

import (
	"regexp"
	"slices"
	"strconv"
	"strings"
	"testing"

	"loop.example/jackstay/impl"
)

func someVersions() []string {
	return []string{"0", "0.0", "0.0.0", "0.0.0.0", "0.0.0.1", "0.0.1", "0.1", "0.10", "0.9", "1", "1.0", "1.0.0", "1.0.0.999", "1.0.1", "1.1", "1.2", "1.2.0", "1.10", "1.2.3.4", "9", "10", "99", "100", "998.999", "999", "999.0", "999.999.999.998", "999.999.999.999"}
}

func noVersions() []string {
	return []string{"", ".", "1.", ".1", "1..2", "00", "01", "1.02", "1000", "1.1000", "1.2.3.4.5", "0.0.0.0.0", "-1", "+1", "1 ", " 1", "1.a", "a", "1,2", "1\n", "\xff", "1.2.3.4.", "99999999999999999999", "18446744073709551617", strings.Repeat("1.", 100000), strings.Repeat("9", 100000)}
}

// versionRule is a version's numbers, so filled up that a missing one is less than any.
func versionRule(s string) []int {
	list := []int{-1, -1, -1, -1}
	for i, part := range strings.Split(s, ".") {
		list[i], _ = strconv.Atoi(part)
	}
	return list
}

func TestVersionOk(t *testing.T) {
	for _, s := range someVersions() {
		if !impl.VersionOk(s) {
			t.Errorf("%q is a version", s)
		}
	}
	for _, s := range noVersions() {
		if impl.VersionOk(s) {
			t.Errorf("%.40q is no version", s)
		}
		if impl.VersionOrder(s, "1") != 0 || impl.VersionOrder("1", s) != 0 || impl.VersionOrder(s, s) != 0 {
			t.Errorf("%.40q has an order", s)
		}
	}
	rule := regexp.MustCompile(`^(0|[1-9][0-9]{0,2})(\.(0|[1-9][0-9]{0,2})){0,3}$`)
	for _, s := range append(wordsOf("09.a", 6), wordsOf("1.", 10)...) {
		if impl.VersionOk(s) != rule.MatchString(s) {
			t.Errorf("VersionOk(%q)", s)
		}
	}
}

// P14
func TestP14OneOfTwoVersionsIsElder(t *testing.T) {
	list := someVersions()
	for _, a := range list {
		for _, b := range list {
			order := impl.VersionOrder(a, b)
			if order != slices.Compare(versionRule(a), versionRule(b)) || order != -impl.VersionOrder(b, a) || (order == 0) != (a == b) {
				t.Errorf("VersionOrder(%q, %q) is %d", a, b, order)
			}
			for _, c := range list {
				if order < 0 && impl.VersionOrder(b, c) < 0 && impl.VersionOrder(a, c) != -1 {
					t.Errorf("%q, %q, %q", a, b, c)
				}
			}
		}
		if strings.Count(a, ".") < 3 && (impl.VersionOrder(a, a+".0") != -1 || impl.VersionOrder(a+".0", a) != 1) {
			t.Errorf("%q with a number more is later", a)
		}
	}
}

// P86
func TestP86NumbersAreNumbers(t *testing.T) {
	if impl.VersionOrder("1.2", "1.10") != -1 || impl.VersionOrder("1.10", "1.2") != 1 {
		t.Error("1.2 is elder than 1.10")
	}
	for i := range 1000 {
		for _, k := range []int{0, 1, 9, 10, 11, 99, 100, 101, 999} {
			want := 0
			if i < k {
				want = -1
			}
			if i > k {
				want = 1
			}
			a, b := strconv.Itoa(i), strconv.Itoa(k)
			if impl.VersionOrder(a, b) != want || impl.VersionOrder("7."+a, "7."+b) != want {
				t.Errorf("%d and %d", i, k)
			}
		}
	}
}

func someNeeds() []impl.Need {
	var list []impl.Need
	for _, name := range []string{"a", "zip", "z9", "tenletter9"} {
		list = append(list, impl.Need{Name: name})
		for _, v := range someVersions() {
			for kind := impl.NeedSame; kind <= impl.NeedLess; kind++ {
				list = append(list, impl.Need{Name: name, Kind: kind, Version: v})
			}
		}
	}
	return list
}

func noNeeds() []impl.Need {
	list := []impl.Need{{}, {Name: "zip", Version: "1"}, {Name: "zip", Kind: 4, Version: "1"}, {Name: "zip", Kind: -1, Version: "1"}, {Name: "zip", Kind: 4}, {Name: "zip", Kind: -1}, {Name: "zip", Kind: 1 << 40, Version: "1"}}
	for _, name := range []string{"", "9", "9zip", "Zip", "zI", "z-p", "z.p", "z_p", "z p", "z/p", "elevenlette", "zip=", "z\n", "\xff", "ä"} {
		list = append(list, impl.Need{Name: name}, impl.Need{Name: name, Kind: impl.NeedSame, Version: "1"})
	}
	for _, v := range noVersions() {
		for kind := impl.NeedSame; kind <= impl.NeedLess; kind++ {
			list = append(list, impl.Need{Name: "zip", Kind: kind, Version: v})
		}
	}
	return list
}

func TestNeedOk(t *testing.T) {
	for _, n := range someNeeds() {
		if !impl.NeedOk(n) {
			t.Errorf("%v is a need", n)
		}
	}
	for _, n := range noNeeds() {
		if impl.NeedOk(n) || impl.NeedPut(n) != "" || impl.NeedFits(n, n.Name, "1") || impl.NeedFits(n, n.Name, n.Version) {
			t.Errorf("%.60v is no need", n)
		}
	}
	for b := range 256 {
		letter, figure := b >= 'a' && b <= 'z', b >= '0' && b <= '9'
		one, two := impl.Need{Name: string([]byte{byte(b)})}, impl.Need{Name: string([]byte{'a', byte(b)})}
		if impl.NeedOk(one) != letter || impl.NeedOk(two) != (letter || figure) {
			t.Errorf("byte %d", b)
		}
	}
}

// P15
func TestP15NeedIsReadBack(t *testing.T) {
	for _, n := range someNeeds() {
		text := n.Name + []string{"", "=", ">=", "<"}[n.Kind] + n.Version
		back, ok := impl.NeedGet(text)
		if impl.NeedPut(n) != text || !ok || back != n {
			t.Errorf("%v is %q, and %v", n, impl.NeedPut(n), back)
		}
	}
	rule := regexp.MustCompile(`^[a-z][a-z0-9]{0,9}((=|>=|<)(0|[1-9][0-9]{0,2})(\.(0|[1-9][0-9]{0,2})){0,3})?$`)
	texts := append(wordsOf("a1.=<>", 6), "zip>1", "zip=<1", "zip<=1", "zip>=", "zip<", "zip=", "zip =1", "zip= 1", "zip>= 1", "zip==1", "zip>=1.2.3.4.5", "zip=1000", "zip=01", "9zip", "Zip", "elevenlette", "elevenlette=1", "tenletter9>=999", "=1", ">=1", "<1", "zip!=1", "zip~1", "zip\n", "zip=1\n", "\xff", strings.Repeat("a", 100000))
	for _, v := range noVersions() {
		texts = append(texts, "zip="+v, "zip>="+v, "zip<"+v)
	}
	for _, text := range texts {
		n, ok := impl.NeedGet(text)
		if ok != rule.MatchString(text) {
			t.Errorf("NeedGet(%.40q) is %v", text, ok)
		}
		if ok && (impl.NeedPut(n) != text || !impl.NeedOk(n)) || !ok && n != (impl.Need{}) {
			t.Errorf("%.40q is read as %v", text, n)
		}
	}
}

// P16
func TestP16FromOrLess(t *testing.T) {
	for _, own := range someVersions() {
		for _, v := range someVersions() {
			order := slices.Compare(versionRule(v), versionRule(own))
			same := impl.NeedFits(impl.Need{Name: "zip", Kind: impl.NeedSame, Version: own}, "zip", v)
			from := impl.NeedFits(impl.Need{Name: "zip", Kind: impl.NeedFrom, Version: own}, "zip", v)
			less := impl.NeedFits(impl.Need{Name: "zip", Kind: impl.NeedLess, Version: own}, "zip", v)
			if from == less || from != (order >= 0) || same != (v == own) {
				t.Errorf("%q of %q: %v, %v, %v", v, own, same, from, less)
			}
		}
		if !impl.NeedFits(impl.Need{Name: "zip"}, "zip", own) {
			t.Errorf("any is also %q", own)
		}
	}
	for _, v := range noVersions() {
		for _, n := range []impl.Need{{Name: "zip"}, {Name: "zip", Kind: impl.NeedSame, Version: "1"}, {Name: "zip", Kind: impl.NeedFrom, Version: "0"}, {Name: "zip", Kind: impl.NeedLess, Version: "999"}} {
			if impl.NeedFits(n, "zip", v) {
				t.Errorf("%.40q is no version, and fits %v", v, n)
			}
		}
	}
}

// P61
func TestP61AnotherNameNeverFits(t *testing.T) {
	for _, n := range someNeeds() {
		for _, v := range someVersions() {
			for _, name := range []string{"", "zop", n.Name + "x", n.Name[1:], "Zip", n.Name + " ", "9"} {
				if impl.NeedFits(n, name, v) {
					t.Errorf("%q %q fits %v", name, v, n)
				}
			}
		}
	}
}
