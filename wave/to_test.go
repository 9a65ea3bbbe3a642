package wave_test

import (
	"math"
	"testing"

	"mercator/api"
	"mercator/wave"
)

// P52, P54.
func TestToAndTurned(t *testing.T) {
	for _, c := range []struct {
		strip wave.Strip
		at    api.Place
		want  api.Flat
		scale float64
		turn  int
	}{
		{strip(t, wgs84, 0, 1), place(8540000001, 47376543210), point(0x1.3ad040d7831d3p+19, 0x1.428bbd5b004a6p+22), 0x1.014eea07a195ep+0, 6305474776},
		{strip(t, wgs84, 9000000000, 0.9996), place(8540000001, 47376543210), point(-0x1.0f4a8ff68e6b0p+15, 0x1.40421fc77e8cep+22), 0x1.ffcd83764fa67p-1, -338480524},
		{strip(t, wgs84, 9000000000, 0.9996), place(9000000000, 0), point(0, 0), 0x1.ffcb923a29c72p-1, 0},
		{strip(t, wgs84, 9000000000, 0.9996), place(12000000000, 50000000000), point(0x1.a3e41e4d53e62p+17, 0x1.5250801316906p+22), 0x1.000afd3ced409p+0, 2299008434},
		{strip(t, wgs84, 9000000000, 0.9996), place(6000000000, 50000000000), point(-0x1.a3e41e4d53e62p+17, 0x1.5250801316906p+22), 0x1.000afd3ced409p+0, -2299008434},
		{strip(t, wgs84, 9000000000, 0.9996), place(12000000000, -50000000000), point(0x1.a3e41e4d53e62p+17, -0x1.5250801316906p+22), 0x1.000afd3ced408p+0, -2299008434},
		{strip(t, wgs84, 9000000000, 0.9996), place(6000000000, -50000000000), point(-0x1.a3e41e4d53e62p+17, -0x1.5250801316906p+22), 0x1.000afd3ced408p+0, 2299008434},
		{strip(t, wgs84, 9000000000, 0.9996), place(9000000000, 45000000000), point(0, 0x1.30229999d26a3p+22), 0x1.ffcb923a2a176p-1, 0},
		{strip(t, wgs84, 9000000000, 0.9996), place(9000000000, -45000000000), point(0, -0x1.30229999d26a3p+22), 0x1.ffcb923a2a176p-1, 0},
		{strip(t, wgs84, 9000000000, 0.9996), place(9000000001, 1), point(0x1.d2b9205ad65b8p-14, 0), 0x1.ffcb923a29c72p-1, 0},
		{strip(t, wgs84, 9000000000, 0.9996), place(8999999999, -1), point(-0x1.d2b9205ad65b8p-14, 0), 0x1.ffcb923a29c72p-1, 0},
		{strip(t, wgs84, 0, 1), place(45000000000, 0), point(0x1.57761fa67e8d6p+22, 0), 0x1.6b44858af010dp+0, 0},
		{strip(t, wgs84, 0, 1), place(-45000000000, 0), point(-0x1.57761fa67e8d4p+22, 0), 0x1.6b44858af010cp+0, 0},
		{strip(t, wgs84, 0, 1), place(45000000000, 89000000000), point(0x1.34837d36c5c09p+16, 0x1.2ed34c75d5370p+23), 0x1.0004fdac9d44cp+0, 44995636463},
		{strip(t, wgs84, 0, 1), place(-45000000000, -89000000000), point(-0x1.34837d36c5c09p+16, -0x1.2ed34c75d5370p+23), 0x1.0004fdac9d448p+0, 44995636463},
		{strip(t, wgs84, 0, 1), place(0, 89000000000), point(0, 0x1.2dd3bfba87f72p+23), 0x1.000000000016ap+0, 0},
		{strip(t, wgs84, 0, 1), place(0, -89000000000), point(0, -0x1.2dd3bfba87f72p+23), 0x1.0000000000166p+0, 0},
		{strip(t, wgs84, 170000000000, 1), place(-170000000000, 60000000000), point(0x1.0d9cbd6770776p+20, 0x1.a07a5266210aap+22), 0x1.03d53543a08eap+0, 17496075249},
		{strip(t, wgs84, -170000000000, 1), place(170000000000, 30000000000), point(-0x1.dbe88538f3211p+20, 0x1.aa9a2f16e54fap+21), 0x1.0c169916c8d6cp+0, -10319029094},
		{strip(t, wgs84, 180000000000, 1), place(-180000000000, 33000000000), point(0, 0x1.bde460583e1bfp+21), 0x1.00000000000c2p+0, 0},
		{strip(t, wgs84, -150000000000, 1), place(165000000000, -20000000000), point(-0x1.38059b31b06c1p+22, -0x1.70bd8f059af41p+21), 0x1.57318b11a0ab6p+0, 18964964408},
		{strip(t, ball, 10000000000, 2), place(40000000000, 30000000000), point(0x1.688b9a49f7122p+22, 0x1.c94ba4b25d9b9p+22), 0x1.1c01aa03be894p+1, 16102113751},
		{strip(t, ball, 0, 0.1), place(-30000000000, -77777777777), point(-0x1.086bd960dadc1p+16, -0x1.aef67ec03e0c1p+19), 0x1.9bea074fe8abbp-4, 29434471222},
		{strip(t, ball, 0, 10), place(44999999999, 88999999999), point(0x1.7feb5bb2e4aa4p+19, 0x1.7ac209cc51680p+26), 0x1.40063d17c4b48p+3, 44995636454},
		{strip(t, one, math.MaxInt, 10), place(9223372033854775807, -12345678901), point(-0x1.08bd43bbba871p-1, -0x1.3a318cd02855ep+0), 0x1.40bbef9a789f5p+3, 643819045},
		{strip(t, one, math.MinInt, 0.1), place(-9223371996854775808, 45000000000), point(0x1.c7d469631e191p-5, 0x1.0d7ec86764b4ep-4), 0x1.cc50aa6536a66p-4, 30078498012},
		{strip(t, one, 33333333333, 1.25), place(33333333333, 45000000000), point(0, 0x1.438652164e6bap-1), 0x1.3ffd7eb4b16a9p+0, 0},
		{strip(t, one, 0, 1), place(45000000000, 0), point(0x1.15431793e6b17p+0, 0), 0x1.89307ecf53902p+1, 0},
		{strip(t, one, 0, 1), place(45000000000, 5000000000), point(0x1.1016b9613435fp+0, 0x1.2e47cc42f0565p-3), 0x1.7cc0e70c05002p+1, 15611950405},
		{strip(t, one, 0, 1), place(-45000000000, -20000000000), point(-0x1.b416d69518c20p-1, -0x1.c9790ba5d4241p-2), 0x1.c4e164dd16a7bp+0, 53716988676},
		{strip(t, big, -1800000000007, 0.1), place(1800000000007, 12345678901), point(0x1.8b0d1ebe1dbffp-6, 0x1.75a9a124a7d77p+23), 0x1.999a084be5f79p-4, 2},
		{strip(t, big, 100000000000, 10), place(135000000000, -66666666667), point(0x1.5acc3b7600c0bp+31, -0x1.1cc36a7b053c7p+33), 0x1.4886797ae824bp+3, -33248244600},
		{strip(t, big, 0, 10), place(45000000000, 1), point(0x1.42c689db0cb7ep+33, 0), 0x1.eb7c9e8328742p+4, 0},
		{strip(t, slight, 0, 1), place(12345678901, 52000000000), point(0x1.9c581ad268db2p+19, 0x1.65b6f9d5d448fp+22), 0x1.023f46a328220p+0, 9785665203},
		{strip(t, slight, 0, 3), place(-2000000000, -17000000000), point(-0x1.37eef6b4249a0p+19, -0x1.5ab6ab7a4f33ap+22), 0x1.8036cb5549070p+1, 584960697},
		{strip(t, bessel, 13000000000, 0.7), place(-31000000000, 61000000000), point(-0x1.7eeed468e039ep+20, 0x1.43a50592a1a28p+22), 0x1.7ca432b30b89dp-1, -40190487763},
		{strip(t, wgs84, -102486946770, 5.178), place(-70115052763, -75154157657), point(0x1.1727bd0e51742p+22, -0x1.5375a17353cf8p+25), 0x1.4e8e3d1bdec35p+2, -31498932114},
		{strip(t, one, -264515447331, 5.07), place(-250472560506, -28032556577), point(0x1.2a6d4844d462ep+0, -0x1.8a51ec182acd3p+0), 0x1.50da3dd8ab730p+2, -7017113432},
		{strip(t, bessel, -173553750491, 3.126), place(-214991272079, 26679728661), point(-0x1.9df1d75bd3bb9p+23, 0x1.65c200db79322p+23), 0x1.f0b2772b7c632p+1, -21678904090},
		{strip(t, ball, 36531905950, 6.229), place(52694277763, -28165667451), point(0x1.2f640c54a0b36p+23, -0x1.33f319b45dedep+24), 0x1.9b3b02e6f27fap+2, -7789661795},
		{strip(t, ball, -181526824237, 4.458), place(-139331518884, 71931052970), point(0x1.6e7ed6bf773efp+22, 0x1.20fc485e30d8ap+25), 0x1.23b64e31ce0dcp+2, 40757579436},
		{strip(t, big, -240852682571, 4.054), place(-251154239522, -6276113133), point(-0x1.5db2518d479fcp+29, -0x1.ebd0e81a4f9b4p+27), 0x1.0b0eeefde1a70p+2, 1179158479},
		{strip(t, ball, -221402068799, 0.931), place(-200039698307, -69729181655), point(0x1.6f77537b81a40p+19, -0x1.c0bbebc83e15fp+22), 0x1.e08392771e437p-1, -20148760570},
		{strip(t, one, 242421435936, 3.618), place(228693947971, 63008678810), point(-0x1.f04378f0515bdp-2, 0x1.7909ce06b4fd0p+1), 0x1.d29e07eaa0420p+1, -12335902843},
		{strip(t, one, 290568976070, 1.826), place(251052754436, -20370252548), point(-0x1.58bc3a4803d2ep+0, -0x1.498aef87853d1p-1), 0x1.5cd2205694ad4p+1, 32150697241},
		{strip(t, slight, -6014823920, 7.079), place(-48264006608, 5641960167), point(-0x1.16b7902feddd0p+25, 0x1.6da00516752f7p+22), 0x1.30cfd68d839c4p+3, -5102836371},
		{strip(t, slight, -138088528460, 4.94), place(-112355547002, 20647398969), point(0x1.9e9489557f506p+23, 0x1.7cf38808e80ebp+23), 0x1.5a013fec9c97cp+2, 9645407607},
		{strip(t, ball, 179645982302, 2.165), place(157184796117, -30842508456), point(-0x1.1ec11e41ccbdap+22, -0x1.e2f267cb12b3bp+22), 0x1.255a033624744p+1, 11966867037},
	} {
		if f, err := c.strip.To(c.at); err != nil || !same(f.X, c.want.X) || !same(f.Y, c.want.Y) {
			t.Errorf("%v: to %x, %v", c, f, err)
		}
		if scale, turn, err := c.strip.Turned(c.at); err != nil || !same(scale, c.scale) || turn != c.turn {
			t.Errorf("%v: turned %x, %d, %v", c, scale, turn, err)
		}
	}
}

// P52, P54: a longitude counts once around, and so does the middle.
func TestToAround(t *testing.T) {
	for _, mid := range []int{20 * degree, 170 * degree, -170 * degree, 0} {
		s := strip(t, wgs84, mid, 1)
		for _, east := range []int{-33 * degree, 0, 13*degree + 1, 45 * degree} {
			want, err := s.To(place(mid+east, 44*degree))
			scale, turn, other := s.Turned(place(mid+east, 44*degree))
			if err != nil || other != nil {
				t.Error(mid, east, err, other)
			}
			for _, turns := range []int{-5, -1, 1, 7} {
				around := s
				around.Mid += 3 * turns * api.Turn
				at := place(mid+east+turns*api.Turn, 44*degree)
				if f, err := around.To(at); err != nil || f != want {
					t.Error(mid, east, turns, f, want, err)
				}
				if k, a, err := around.Turned(at); err != nil || k != scale || a != turn {
					t.Error(mid, east, turns, k, a, err)
				}
			}
		}
	}
}

// P52, P54: longitudes so far apart that no int tells how far.
func TestToFarAround(t *testing.T) {
	const far = 25000000 * api.Turn
	at, near := place(10*degree, 50*degree), strip(t, wgs84, 0, 1)
	want := drawn(t, near, at)
	scale, turn, _ := near.Turned(at)
	for _, lon := range []int{far, -far} {
		s := strip(t, wgs84, -lon, 1)
		at.Lon = lon + 10*degree
		if f, err := s.To(at); err != nil || f != want {
			t.Error(s, at, f, want, err)
		}
		if k, a, err := s.Turned(at); err != nil || k != scale || a != turn {
			t.Error(s, at, k, a, err)
		}
	}
}

// P52, P54.
func TestToOfWrongPlaces(t *testing.T) {
	for which := range slight + 1 {
		for _, mid := range []int{0, 9 * degree, 179 * degree, -179 * degree, math.MaxInt - api.Turn, math.MinInt + api.Turn} {
			s := strip(t, which, mid, 1)
			for _, at := range []api.Place{place(mid, 89*degree), place(mid, -89*degree), place(mid+45*degree, 0), place(mid-45*degree, 0), place(mid+45*degree, -89*degree), place(mid-45*degree, 89*degree)} {
				_, err := s.To(at)
				_, _, other := s.Turned(at)
				if err != nil || other != nil {
					t.Error(s, at, err, other)
				}
			}
			for _, lat := range []int{89*degree + 1, -89*degree - 1, api.Turn / 4, -api.Turn / 4, api.Turn, math.MaxInt, math.MinInt} {
				wrongTo(t, s, place(mid, lat), api.ErrRange)
			}
			for _, east := range []int{45*degree + 1, -45*degree - 1, 90 * degree, -90 * degree, 180 * degree, 314 * degree} {
				wrongTo(t, s, place(mid+east, 0), api.ErrRange)
				wrongTo(t, s, place(mid+east, math.MinInt), api.ErrRange)
			}
		}
	}
}

// P52, P3: a zero that is told has no sign.
func TestToOfZeros(t *testing.T) {
	for which := range slight + 1 {
		f, err := strip(t, which, 5*degree, 1).To(place(5*degree, 0))
		if err != nil || !same(f.X, 0) || !same(f.Y, 0) {
			t.Error(which, f, err)
		}
	}
}
