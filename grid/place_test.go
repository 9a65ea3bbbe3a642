package grid_test

import (
	"math"
	"math/rand"
	"testing"

	"mercator/api"
	"mercator/globe"
	"mercator/grain"
	"mercator/grid"
	"mercator/wave"
)

func place(lon, lat int) api.Place { return api.Place{Lon: lon, Lat: lat} }

// paper of a zone, as chapter 5 draws it.
func paper(t *testing.T, zone int) wave.Strip {
	t.Helper()
	g, err := globe.Known("wgs84")
	mid, other := grid.Middle(zone)
	if err != nil || other != nil {
		t.Fatal(zone, err, other)
	}
	return wave.Strip{Globe: g, Mid: mid, Scale: 0.9996}
}

// P62.
func TestRefOf(t *testing.T) {
	for _, c := range []struct {
		at   api.Place
		want grid.Ref
	}{
		{place(9000000000, 0), ref(32, north, 500000, 0)},
		{place(9000000000, 1), ref(32, north, 500000, 0)},
		{place(9000000000, 47000000000), ref(32, north, 500000, 5205164)},
		{place(8542500000, 47376900000), ref(32, north, 465464, 5247150)},
		{place(9000000000, 84000000000), ref(32, north, 500000, 9328094)},
		{place(9000000000, -80000000000), ref(32, south, 500000, 1118414)},
		{place(6000000000, 0), ref(32, north, 166021, 0)},
		{place(11999999999, 0), ref(32, north, 833979, 0)},
		{place(6000000000, 84000000000), ref(32, north, 465005, 9329005)},
		{place(11999999999, -80000000000), ref(32, south, 558132, 1116915)},
		{place(180000000000, 10000000000), ref(1, north, 171071, 1106909)},
		{place(-180000000000, 10000000000), ref(1, north, 171071, 1106909)},
		{place(179999999999, 10000000000), ref(60, north, 828929, 1106909)},
		{place(-179999999999, -10000000000), ref(1, south, 171071, 8893091)},
		{place(0, 51477811000), ref(31, north, 291682, 5707230)},
		{place(-1, 51477811000), ref(30, north, 708318, 5707230)},
		{place(151215300000, -33856800000), ref(56, south, 334901, 6252289)},
		{place(-43210500000, -22951900000), ref(23, south, 683477, 7460687)},
		{place(-157858300000, 21306900000), ref(4, north, 618417, 2356542)},
		{place(2294500000, 48858400000), ref(31, north, 448252, 5411955)},
		{place(270472594942, -54994897770), ref(16, south, 338323, 3902855)},
		{place(-320221638599, -41343354232), ref(37, south, 565121, 5422834)},
		{place(287091878452, 7502057521), ref(18, north, 730844, 829801)},
		{place(-335217438087, 54315215524), ref(35, north, 355760, 6020861)},
		{place(-141807434409, 68340891383), ref(7, north, 466743, 7581089)},
		{place(-253991394967, 75447686398), ref(48, north, 528288, 8373799)},
		{place(313465325911, -55580147877), ref(23, south, 403255, 3839578)},
		{place(107482632953, 19184257830), ref(48, north, 761072, 2123075)},
		{place(90113786891, -7824012979), ref(46, south, 181676, 9134066)},
		{place(-255670161016, -67323949468), ref(48, south, 471169, 2532351)},
		{place(174123763141, -24554071581), ref(60, south, 208640, 7281387)},
		{place(273570602408, 60898570756), ref(16, north, 530960, 6751624)},
		{place(335906773434, -14023390639), ref(26, south, 813993, 8447756)},
		{place(115030887286, 15796343886), ref(50, north, 289074, 1747395)},
		{place(-228620572192, 57824158190), ref(52, north, 641317, 6411618)},
		{place(-142995646990, 83710514181), ref(7, north, 475596, 9296199)},
		{place(-65095772223, 23921991343), ref(20, north, 286676, 2647172)},
		{place(-113109198270, 83801916032), ref(12, north, 474582, 9306446)},
		{place(214229498497, -28406607845), ref(6, south, 620436, 6857139)},
		{place(-171974674704, 71753701780), ref(2, north, 465940, 7961735)},
	} {
		if r, err := grid.RefOf(c.at); r != c.want || err != nil {
			t.Error(c, r, err)
		}
	}
}

// P62: places whose East or North lies in the middle between two whole numbers, some of them only once the sum is rounded.
func TestRefOfMiddles(t *testing.T) {
	for _, c := range []struct {
		at   api.Place
		want grid.Ref
	}{
		{place(39338429121, 7531581599), ref(37, north, 537336, 832528)},
		{place(-4868150915, -2947736832), ref(30, south, 292358, 9674010)},
		{place(-115074474600, -10962851596), ref(11, south, 710415, 8787456)},
		{place(-146396214903, -6814818624), ref(6, south, 566716, 9246680)},
		{place(-157705364446, -28610617904), ref(4, south, 626573, 6834468)},
		{place(121211985578, -44788856483), ref(51, south, 358560, 5038950)},
		{place(97949720429, -17362074962), ref(47, south, 388417, 8080084)},
		{place(163824118926, -28364317046), ref(58, south, 384771, 6861878)},
		{place(117971663133, 75783253029), ref(50, north, 526636, 8411219)},
		{place(155994594154, 66004968327), ref(56, north, 635846, 7323708)},
		{place(-104726262627, 68827750829), ref(13, north, 511034, 7635180)},
		{place(-152552204682, -54727523733), ref(5, south, 528838, 3935437)},
		{place(131668169059, 63850771067), ref(52, north, 631172, 7083128)},
		{place(-169175087791, -903741319), ref(2, south, 703076, 9900058)},
		{place(-52108943706, -26433194120), ref(22, south, 389426, 7075865)},
		{place(-11053786027, -73343666215), ref(29, south, 434304, 1860054)},
	} {
		if r, err := grid.RefOf(c.at); r != c.want || err != nil {
			t.Error(c, r, err)
		}
		f, err := paper(t, c.want.Zone).To(c.at)
		if c.want.South {
			f.Y += 10000000
		}
		if err != nil || math.Abs(f.X+500000-float64(c.want.East)) != 0.5 && math.Abs(f.Y-float64(c.want.North)) != 0.5 {
			t.Error(c, f, err)
		}
	}
}

// P62: what lies just beneath the equator has no North of seven digits.
func TestRefOfBeneathEquator(t *testing.T) {
	for lon, first := range map[int]int{9 * degree: -4525, 6 * degree: -4519} {
		for _, lat := range []int{-1, -1000, first + 1} {
			wrongPlace(t, place(lon, lat))
		}
		for lat, up := range map[int]int{first: 9999999, 0: 0, -first - 1: 0, -first: 1} {
			if r, err := grid.RefOf(place(lon, lat)); r.North != up || r.South != (lat < 0) || err != nil {
				t.Error(lon, lat, r, err)
			}
		}
	}
}

// wrongPlace: RefOf tells an error, and nothing else.
func wrongPlace(t *testing.T, p api.Place) {
	t.Helper()
	if r, err := grid.RefOf(p); r != (grid.Ref{}) || err != api.ErrRange {
		t.Error(p, r, err)
	}
}

// P62.
func TestRefOfWrongPlaces(t *testing.T) {
	for _, lon := range []int{0, 9 * degree, 180 * degree, -180 * degree, math.MaxInt, math.MinInt} {
		for _, lat := range []int{84*degree + 1, -80*degree - 1, 89 * degree, -89 * degree, 90 * degree, -90 * degree, api.Turn, -api.Turn, math.MaxInt, math.MinInt} {
			wrongPlace(t, place(lon, lat))
		}
		for _, lat := range []int{84 * degree, -80 * degree} {
			if r, err := grid.RefOf(place(lon, lat)); r.Zone != grid.Zone(lon) || r.South != (lat < 0) || r.Valid() != nil || err != nil {
				t.Error(lon, lat, r, err)
			}
		}
	}
}

// P62: a longitude counts once around.
func TestRefOfAround(t *testing.T) {
	for _, lon := range []int{0, 8*degree + 12345, 179 * degree, -180 * degree, -123456789012} {
		want, err := grid.RefOf(place(lon, -33*degree))
		if err != nil {
			t.Error(lon, err)
		}
		for _, turns := range []int{-25000000, -5, -1, 1, 7, 25000000} {
			if r, err := grid.RefOf(place(lon+turns*api.Turn, -33*degree)); r != want || err != nil {
				t.Error(lon, turns, r, want, err)
			}
		}
	}
}

// P62.
func TestPlace(t *testing.T) {
	for _, c := range []struct {
		ref  grid.Ref
		want api.Place
	}{
		{ref(32, north, 500000, 0), place(9000000000, 0)},
		{ref(32, south, 500000, 9999999), place(9000000000, -9048)},
		{ref(32, south, 500000, 0), place(-171000000000, -89000000000)},
		{ref(32, north, 500000, 9999999), place(-171000000000, 89000000000)},
		{ref(1, north, 0, 0), place(178511256116, 0)},
		{ref(60, north, 999999, 0), place(-178511265075, 0)},
		{ref(1, south, 0, 9999999), place(178511256116, -9020)},
		{ref(60, south, 999999, 0), place(-92767037739, -85526124576)},
		{ref(60, south, 0, 0), place(86767038206, -85526115647)},
		{ref(1, north, 999999, 9999999), place(-86767152212, 85526124612)},
		{ref(31, north, 448252, 5411935), place(2294502499, 48858220906)},
		{ref(56, south, 334901, 6252295), place(151215305822, -33856743752)},
		{ref(32, north, 465123, 5247890), place(8537929110, 47383535967)},
		{ref(1, north, 166021, 0), place(179999996024, 0)},
		{ref(60, north, 833978, 0), place(179999995002, 0)},
		{ref(7, south, 5, 4649776), place(-147718520004, -48108450385)},
		{ref(58, north, 648668, 5135917), place(166932579499, 46360494353)},
		{ref(24, south, 408069, 4851118), place(-40197804909, -46487235883)},
		{ref(9, north, 512499, 902985), place(-128886530959, 8169019012)},
		{ref(12, south, 782565, 6673377), place(-108069799563, -30038072813)},
		{ref(7, north, 257227, 1494130), place(-143242860798, 13505334764)},
		{ref(58, north, 912759, 7484524), place(174572460040, 67190742669)},
		{ref(29, north, 398478, 1282967), place(-9931226039, 11604322788)},
		{ref(34, south, 318202, 6862951), place(19145205173, -28347082956)},
		{ref(6, south, 713220, 4459714), place(-144026057590, -49976759401)},
		{ref(29, south, 822114, 2887830), place(-2408689745, -63986354235)},
		{ref(2, south, 129494, 4213388), place(-176411705567, -52105621310)},
		{ref(38, north, 196669, 4300205), place(41507357574, 38798425996)},
		{ref(33, south, 972656, 8671682), place(19337806845, -11982315828)},
		{ref(17, north, 971956, 7075671), place(-71495938555, 63493088359)},
		{ref(40, south, 631751, 7964294), place(58247363004, -18407340698)},
		{ref(43, south, 149091, 6333031), place(71241080843, -33084728643)},
	} {
		if p, err := c.ref.Place(); p != c.want || err != nil {
			t.Error(c, p, err)
		}
	}
}

// P62: the middle of each zone is drawn at East 500000.
func TestPlaceOfMiddles(t *testing.T) {
	for zone := 1; zone <= 60; zone++ {
		mid, _ := grid.Middle(zone)
		if p, err := ref(zone, north, 500000, 0).Place(); p != place(mid, 0) || err != nil {
			t.Error(zone, p, err)
		}
		for _, lat := range []int{84 * degree, 33 * degree, 0, -33 * degree, -80 * degree} {
			if r, err := grid.RefOf(place(mid, lat)); r.Zone != zone || r.East != 500000 || r.South != (lat < 0) || err != nil {
				t.Error(zone, lat, r, err)
			}
		}
	}
}

// P62: the place of a place's reference is half a metre from it, at most, east and north; and so both are found again.
func TestPlaceOfRefOf(t *testing.T) {
	r := rand.New(rand.NewSource(62))
	for range 20000 {
		at := place(r.Intn(2*api.Turn)-api.Turn, r.Intn(164*degree)-80*degree)
		if at.Lat < 0 && at.Lat > -5000 {
			continue // these have no North of seven digits
		}
		told, err := grid.RefOf(at)
		back, other := told.Place()
		if err != nil || other != nil {
			t.Error(at, told, err, other)
			continue
		}
		a, _ := paper(t, told.Zone).To(at)
		b, _ := paper(t, told.Zone).To(back)
		if math.Abs(a.X-b.X) > 0.501 || math.Abs(a.Y-b.Y) > 0.501 || math.Abs(float64(grain.Signed(at.Lon-back.Lon))) > 50000 {
			t.Error(at, told, back)
		}
		if again, err := grid.RefOf(back); grid.Zone(back.Lon) == told.Zone && (again != told || err != nil) {
			t.Error(at, told, back, again, err)
		}
	}
}
