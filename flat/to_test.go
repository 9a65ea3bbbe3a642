package flat_test

import (
	"math"
	"testing"

	"mercator/api"
	"mercator/flat"
)

func paper(t *testing.T, which int, kind string, mid int, scale float64) flat.Paper {
	t.Helper()
	return flat.Paper{Globe: globeOf(t, which), Kind: kind, Mid: mid, Scale: scale}
}

func place(lon, lat int) api.Place { return api.Place{Lon: lon, Lat: lat} }

func point(x, y float64) api.Flat { return api.Flat{X: x, Y: y} }

// P42, P44.
func TestToAndStretch(t *testing.T) {
	for _, c := range []struct {
		paper         flat.Paper
		at            api.Place
		want          api.Flat
		along, across float64
	}{
		{paper(t, wgs84, "mercator", 0, 1), place(8540000001, 47376543210), point(0x1.d0318e729281ep+19, 0x1.6c8526dafaf5cp+22), 0x1.795aa80956929p+0, 0x1.795aa80956929p+0},
		{paper(t, wgs84, "mercator", 0, 1), place(-74006000007, -40712812345), point(-0x1.f6d398f219b86p+22, -0x1.2da5d25622ca3p+22), 0x1.5141338506c1ap+0, 0x1.5141338506c1ap+0},
		{paper(t, wgs84, "mercator", 9000000000, 0.9996), place(8540000001, -47376543210), point(-0x1.8fe4f73a62d1bp+15, -0x1.6c5fd32dd6335p+22), 0x1.793403eca995bp+0, 0x1.793403eca995ap+0},
		{paper(t, wgs84, "mercator", 0, 1), place(0, 0), point(0, 0), 0x1.0000000000000p+0, 0x1.0000000000000p+0},
		{paper(t, wgs84, "mercator", 0, 1), place(180000000000, 1), point(0x1.31bf8457c1093p+24, 0x1.cfc8cb8048560p-14), 0x1.0000000000000p+0, 0x1.0000000000000p+0},
		{paper(t, wgs84, "mercator", 0, 1), place(-180000000000, -1), point(0x1.31bf8457c1093p+24, -0x1.cfc86a2df54c4p-14), 0x1.0000000000000p+0, 0x1.0000000000000p+0},
		{paper(t, wgs84, "mercator", 0, 1), place(180000000001, 89000000000), point(-0x1.31bf8457b9bd9p+24, 0x1.ccc9a92b7d1a0p+24), 0x1.c8da63b0daccdp+5, 0x1.c8da63b0daccfp+5},
		{paper(t, wgs84, "mercator", 170000000000, 1), place(-170000000000, -60000000000), point(0x1.0fc6ae86e479fp+21, -0x1.fe6b2a31aa2e6p+22), 0x1.feb68b354e7fep+0, 0x1.feb68b354e800p+0},
		{paper(t, wgs84, "mercator", -170000000000, 1), place(170000000000, 30000000000), point(-0x1.0fc6ae86e479fp+21, 0x1.a91268aeeab6bp+21), 0x1.275b1a90cdcf3p+0, 0x1.275b1a90cdcf4p+0},
		{paper(t, ball, "mercator", 10000000000, 2), place(40000000000, 30000000000), point(0x1.97353e650aac1p+22, 0x1.ab336b907db49p+22), 0x1.279a74590331cp+1, 0x1.279a74590331cp+1},
		{paper(t, ball, "mercator", 0, 0.1), place(-90000000000, -77777777777), point(-0x1.e8a64adfa6682p+19, -0x1.5b87adba3a960p+20), 0x1.e3b1cb2ce2acdp-2, 0x1.e3b1cb2ce2acdp-2},
		{paper(t, ball, "mercator", 0, 10), place(90000000000, 88999999999), point(0x1.7dc1ea7eba016p+26, 0x1.2013e217588cdp+28), 0x1.1e7e523a7a779p+9, 0x1.1e7e523a7a779p+9},
		{paper(t, one, "mercator", math.MaxInt, 10), place(math.MinInt, -89000000000), point(0x1.e1efd0cf8c4bap+3, -0x1.513b08176c68fp+5), 0x1.adca83247faf1p+8, 0x1.adca83247faf0p+8},
		{paper(t, one, "mercator", math.MinInt, 0.1), place(math.MaxInt, 45000000000), point(-0x1.347085a38cfd4p-3, 0x1.bf3b6c245a8cdp-5), 0x1.0000000000001p-3, 0x1.0000000000001p-3},
		{paper(t, one, "mercator", 33333333333, 1.25), place(33333333333, 45000000000), point(0, 0x1.5d666c7c66be0p-1), 0x1.9000000000001p+0, 0x1.9000000000001p+0},
		{paper(t, big, "mercator", -1800000000007, 0.1), place(1800000000007, 12345678901), point(0x1.90562e34075b6p-6, 0x1.77538e6158d70p+23), 0x1.9f14f701d9979p-4, 0x1.9f14f701d9978p-4},
		{paper(t, big, "mercator", 100000000000, 10), place(-100000000000, -66666666667), point(0x1.a01e718ffa318p+34, -0x1.4b3a9948b77bfp+33), 0x1.40ebd041cdb30p+4, 0x1.40ebd041cdb30p+4},
		{paper(t, slight, "mercator", 0, 1), place(12345678901, 52000000000), point(0x1.4f86ab05259efp+20, 0x1.9f0bf5d14d872p+22), 0x1.9fd01bf93f3a2p+0, 0x1.9fd01bf93f3a2p+0},
		{paper(t, slight, "mercator", 0, 3), place(-2000000000, -17000000000), point(-0x1.46219e3b78925p+19, -0x1.5fb6ac7c0a21dp+22), 0x1.918baeb3b6b17p+1, 0x1.918baeb3b6b16p+1},
		{paper(t, bessel, "mercator", 13000000000, 0.7), place(-89000000000, 61000000000), point(-0x1.e51066b1cc84ap+22, 0x1.6ee61e30f6955p+22), 0x1.70af50c48d0e9p+0, 0x1.70af50c48d0e9p+0},
		{paper(t, slight, "mercator", 290488386116, 8.039), place(-105950163870, 37630456727), point(-0x1.f191fb265cb1dp+24, 0x1.15acbd43f639fp+25), 0x1.44d285d757a32p+3, 0x1.44d285d757a32p+3},
		{paper(t, slight, "mercator", 315795526274, 8.214), place(-54869961824, -88324533672), point(-0x1.299dc5b20a04fp+23, -0x1.a63565fb0d8d3p+27), 0x1.18eef99b8af62p+8, 0x1.18eef99b8af62p+8},
		{paper(t, bessel, "mercator", -343321988239, 5.842), place(351263032135, 59416881541), point(-0x1.f856aef832984p+23, 0x1.6ef82086c1cb6p+25), 0x1.6e85330e834ddp+3, 0x1.6e85330e834ddp+3},
		{paper(t, ball, "mercator", 260007210796, 2.071), place(35615962491, -57474379610), point(0x1.dc82cbc35ebf9p+24, -0x1.f010e7c9ffa78p+23), 0x1.ed06608e19ff2p+1, 0x1.ed06608e19ff2p+1},
		{paper(t, bessel, "mercator", 162367184647, 1.313), place(-352116351771, -69048519549), point(-0x1.587fb763037d4p+24, -0x1.adbcf6ba780c2p+23), 0x1.d4a3395399ebep+1, 0x1.d4a3395399ebep+1},
		{paper(t, ball, "mercator", -355385342271, 4.409), place(329444044083, -34547408493), point(-0x1.071a41e236c97p+24, -0x1.13b1a6edc85f4p+24), 0x1.5696cfc744525p+2, 0x1.5696cfc744525p+2},
		{paper(t, wgs84, "equal", 0, 1), place(8540000001, 47376543210), point(0x1.d0318e729281ep+19, 0x1.1d384f037fab8p+22), 0x1.5b5845ec2f33ep-1, 0x1.795aa80956929p+0},
		{paper(t, wgs84, "equal", 0, 1), place(-74006000007, -40712812345), point(-0x1.f6d398f219b86p+22, -0x1.f96773af54be9p+21), 0x1.84a4dab91a39cp-1, 0x1.5141338506c1ap+0},
		{paper(t, wgs84, "equal", 9000000000, 0.9996), place(8540000001, -47376543210), point(-0x1.8fe4f73a62d1bp+15, -0x1.1d5586e028711p+22), 0x1.5b7bdb008fed0p-1, 0x1.793403eca995ap+0},
		{paper(t, wgs84, "equal", 0, 1), place(0, 0), point(0, 0), 0x1.0000000000000p+0, 0x1.0000000000000p+0},
		{paper(t, wgs84, "equal", 0, 1), place(180000000000, 1), point(0x1.31bf8457c1093p+24, 0x1.cfc6562906093p-14), 0x1.0000000000000p+0, 0x1.0000000000000p+0},
		{paper(t, wgs84, "equal", 0, 1), place(-180000000000, -1), point(0x1.31bf8457c1093p+24, -0x1.cfc6562908e16p-14), 0x1.0000000000000p+0, 0x1.0000000000000p+0},
		{paper(t, wgs84, "equal", 0, 1), place(180000000001, 89000000000), point(-0x1.31bf8457b9bd9p+24, 0x1.845c6d76aab61p+22), 0x1.1ee6e0603f9f8p-6, 0x1.c8da63b0daccfp+5},
		{paper(t, wgs84, "equal", 170000000000, 1), place(-170000000000, -60000000000), point(0x1.0fc6ae86e479fp+21, -0x1.50012e9a0cd85p+22), 0x1.00a524a91313cp-1, 0x1.feb68b354e800p+0},
		{paper(t, wgs84, "equal", -170000000000, 1), place(170000000000, 30000000000), point(-0x1.0fc6ae86e479fp+21, 0x1.831dda862e958p+21), 0x1.bbc6c993a546ap-1, 0x1.275b1a90cdcf4p+0},
		{paper(t, ball, "equal", 10000000000, 2), place(40000000000, 30000000000), point(0x1.97353e650aac1p+22, 0x1.84dadffffffffp+20), 0x1.bb67ae8584cabp-2, 0x1.279a74590331cp+1},
		{paper(t, ball, "equal", 0, 0.1), place(-90000000000, -77777777777), point(-0x1.e8a64adfa6682p+19, -0x1.db0d2a0df28fdp+25), 0x1.0efb1ff698253p+1, 0x1.e3b1cb2ce2acdp-2},
		{paper(t, ball, "equal", 0, 10), place(90000000000, 88999999999), point(0x1.7dc1ea7eba016p+26, 0x1.37095eee4172ep+19), 0x1.c9811dfbdc7a7p-10, 0x1.1e7e523a7a779p+9},
		{paper(t, one, "equal", math.MaxInt, 10), place(math.MinInt, -89000000000), point(0x1.e1efd0cf8c4bap+3, -0x1.5736fadd2ab02p-4), 0x1.30f77f6475eefp-9, 0x1.adca83247faf0p+8},
		{paper(t, one, "equal", math.MinInt, 0.1), place(math.MaxInt, 45000000000), point(-0x1.347085a38cfd4p-3, 0x1.2cece29bd6cd7p+2), 0x1.ffffffffffffep+2, 0x1.0000000000001p-3},
		{paper(t, one, "equal", 33333333333, 1.25), place(33333333333, 45000000000), point(0, 0x1.812f368a08b51p-2), 0x1.47ae147ae147ap-1, 0x1.9000000000001p+0},
		{paper(t, big, "equal", -1800000000007, 0.1), place(1800000000007, 12345678901), point(0x1.90562e34075b6p-6, 0x1.22a24a0162078p+30), 0x1.3bc619cf9dbc7p+3, 0x1.9f14f701d9978p-4},
		{paper(t, big, "equal", 100000000000, 10), place(-100000000000, -66666666667), point(0x1.a01e718ffa318p+34, -0x1.0e655a9d61f18p+26), 0x1.986ca00649f64p-5, 0x1.40ebd041cdb30p+4},
		{paper(t, slight, "equal", 0, 1), place(12345678901, 52000000000), point(0x1.4f86ab05259efp+20, 0x1.32c3dfc140365p+22), 0x1.3b37fb1bdc939p-1, 0x1.9fd01bf93f3a2p+0},
		{paper(t, slight, "equal", 0, 3), place(-2000000000, -17000000000), point(-0x1.46219e3b78925p+19, -0x1.2f83706cd067cp+19), 0x1.466b2f4529216p-2, 0x1.918baeb3b6b16p+1},
		{paper(t, bessel, "equal", 13000000000, 0.7), place(-89000000000, 61000000000), point(-0x1.e51066b1cc84ap+22, 0x1.e4c04f99ee47fp+22), 0x1.638327c6dd711p-1, 0x1.70af50c48d0e9p+0},
		{paper(t, wgs84, "equal", 169480879099, 9.613), place(3352925472, -69725685291), point(-0x1.5314a29fb4a91p+27, -0x1.2f0e4147aa5efp+19), 0x1.282aa9984013ap-5, 0x1.ba8fc7fa01940p+4},
		{paper(t, ball, "equal", -31473065275, 4.072), place(242593128069, -69888325029), point(-0x1.28db512cb1e8dp+25, -0x1.66b01774e7299p+20), 0x1.59e0af04599bcp-4, 0x1.7af46d1dad9dcp+3},
		{paper(t, ball, "equal", -217183113975, 9.441), place(-215442985873, 20270948655), point(0x1.bdfd358bcc953p+20, 0x1.c8a3891d3506bp+17), 0x1.96fb48f08a9d0p-4, 0x1.420f0d8b4573ap+3},
		{paper(t, slight, "equal", -267900997357, 2.813), place(-54484009747, 60231727025), point(-0x1.5e32e4de508fbp+25, 0x1.e0830d08d9a62p+20), 0x1.69789ef4fa027p-3, 0x1.6a9b683e90ba8p+2},
		{paper(t, big, "equal", 38682169012, 2.507), place(-103584689158, 46549409893), point(-0x1.73091b2079fa5p+32, 0x1.7327fe3d6af58p+27), 0x1.403e3a073d8e3p-2, 0x1.994a02a40364dp+1},
		{paper(t, wgs84, "equal", -61480958264, 8.655), place(-206704281937, -18336490204), point(-0x1.0adf80f5236c5p+27, -0x1.c1f9092d0b38fp+17), 0x1.c15f41f12b8c7p-4, 0x1.23ad97eac56cep+3},
		{paper(t, wgs84, "polar", 0, 1), place(8540000001, 47376543210), point(0x1.6969ceca04001p+19, -0x1.2cd8e3e0c10edp+22), 0x1.26e46b3d5ded2p+0, 0x1.26e46b3d5ded2p+0},
		{paper(t, wgs84, "polar", 0, 1), place(-74006000007, 40712812345), point(-0x1.57b405a844d25p+22, -0x1.8a10c071acfe3p+20), 0x1.35c04f4840189p+0, 0x1.35c04f4840189p+0},
		{paper(t, wgs84, "polar", 9000000000, 0.9996), place(8540000001, 47376543210), point(-0x1.3880e74a00013p+15, -0x1.3016bbb3cf651p+22), 0x1.26c638d0e697dp+0, 0x1.26c638d0e697cp+0},
		{paper(t, wgs84, "polar", 0, 1), place(0, 0), point(0, -0x1.83fd00329c889p+23), 0x1.fe498578617c6p+0, 0x1.fe498578617c5p+0},
		{paper(t, wgs84, "polar", 0, 1), place(180000000000, 1), point(0, 0x1.83fd00327fa4dp+23), 0x1.fe4985783b7d6p+0, 0x1.fe4985783b7d5p+0},
		{paper(t, wgs84, "polar", 0, 1), place(-180000000000, 1), point(0, 0x1.83fd00327fa4dp+23), 0x1.fe4985783b7d6p+0, 0x1.fe4985783b7d5p+0},
		{paper(t, wgs84, "polar", 0, 1), place(180000000001, 89000000000), point(-0x1.05a775109bab9p-19, 0x1.b450b348408d8p+16), 0x1.0004fdb8bbf59p+0, 0x1.0004fdb8bbf59p+0},
		{paper(t, wgs84, "polar", 170000000000, 1), place(-170000000000, 60000000000), point(0x1.1e1c7475e00fbp+20, -0x1.890abe355830cp+21), 0x1.125d079322c18p+0, 0x1.125d079322c19p+0},
		{paper(t, wgs84, "polar", -170000000000, 1), place(170000000000, 30000000000), point(-0x1.337c326acb339p+21, -0x1.a6677ca05a8d8p+22), 0x1.550c04bbe41fep+0, 0x1.550c04bbe41ffp+0},
		{paper(t, ball, "polar", 10000000000, 2), place(40000000000, 30000000000), point(0x1.c102d4852271fp+22, -0x1.84dae00000000p+23), 0x1.5555555555555p+1, 0x1.5555555555554p+1},
		{paper(t, ball, "polar", 0, 0.1), place(-90000000000, 77777777777), point(-0x1.0a734fe845423p+17, 0), 0x1.9e4b94abbfc13p-4, 0x1.9e4b94abbfc14p-4},
		{paper(t, ball, "polar", 0, 10), place(90000000000, 88999999999), point(0x1.0f7a97eb9032dp+20, 0), 0x1.40063d2756cb1p+3, 0x1.40063d2756cb1p+3},
		{paper(t, one, "polar", math.MaxInt, 10), place(math.MinInt, 89000000000), point(0x1.db8c6763c7a5bp-3, -0x1.ed4fa9628f10dp-7), 0x1.40063cf6e915dp+3, 0x1.40063cf6e915ep+3},
		{paper(t, one, "polar", math.MinInt, 0.1), place(math.MaxInt, 45000000000), point(-0x1.751dcea3203c7p-4, -0x1.830d98a974b64p-8), 0x1.d35ff09583094p-4, 0x1.d35ff09583093p-4},
		{paper(t, one, "polar", 33333333333, 1.25), place(33333333333, 45000000000), point(0, -0x1.241bf65d71e5bp+0), 0x1.6d22f3f4ce5f3p+0, 0x1.6d22f3f4ce5f2p+0},
		{paper(t, big, "polar", -1800000000007, 0.1), place(1800000000007, 12345678901), point(0x1.16eae2b3f877fp-5, -0x1.09c5d645f1ec6p+27), 0x1.2130ce53ff655p-3, 0x1.2130ce53ff654p-3},
		{paper(t, big, "polar", 100000000000, 10), place(-100000000000, 66666666667), point(0x1.a6dd5570c6cdep+30, 0x1.2273e5c39e0b0p+32), 0x1.4cd7805bf18e1p+3, 0x1.4cd7805bf18e0p+3},
		{paper(t, slight, "polar", 0, 1), place(12345678901, 52000000000), point(0x1.ca8e4db745baep+19, -0x1.05e339cd2d94dp+22), 0x1.1e5a0bfbb71f1p+0, 0x1.1e5a0bfbb71f1p+0},
		{paper(t, slight, "polar", 0, 3), place(-2000000000, 17000000000), point(-0x1.e28d0b6fbb111p+19, -0x1.afd39c72dbfefp+24), 0x1.2920cdbde7cb5p+2, 0x1.2920cdbde7cb5p+2},
		{paper(t, bessel, "polar", 13000000000, 0.7), place(-89000000000, 61000000000), point(-0x1.14658395f54c4p+21, 0x1.d5ffca86a5abfp+18), 0x1.7e59c86de14ffp-1, 0x1.7e59c86de14ffp-1},
		{paper(t, bessel, "polar", 41996814475, 5.323), place(-198953612286, 3905212800), point(0x1.a5bf8d822e1b2p+25, 0x1.d48322f97cccbp+24), 0x1.3e068116fc160p+3, 0x1.3e068116fc160p+3},
		{paper(t, wgs84, "polar", 58340508380, 5.794), place(131806476245, 31008444951), point(0x1.31d181a57d618p+25, -0x1.6b23ff3af591cp+23), 0x1.e916365318f36p+2, 0x1.e916365318f34p+2},
		{paper(t, bessel, "polar", -198116241421, 7.384), place(5094130784, 1336752989), point(-0x1.13c6475938c5dp+25, 0x1.418de757928bbp+26), 0x1.cc55560ef710ap+3, 0x1.cc55560ef710bp+3},
		{paper(t, big, "polar", -125077300237, 6.117), place(-153126231133, 2334860540), point(-0x1.0808544a88024p+32, -0x1.ef8d33388c267p+32), 0x1.2d9853af662b8p+3, 0x1.2d9853af662b9p+3},
		{paper(t, wgs84, "polar", -256402693595, 3.975), place(-302011785804, 52863010900), point(-0x1.74325259edcc7p+23, -0x1.6c5dba40b37fap+23), 0x1.1b119b5eab227p+2, 0x1.1b119b5eab227p+2},
		{paper(t, bessel, "polar", 334979949657, 1.701), place(-7526741689, 79636856469), point(0x1.21b53d180bea3p+19, -0x1.cb9af43e01e14p+20), 0x1.b70959d0fe77ep+0, 0x1.b70959d0fe77ep+0},
	} {
		if f, err := c.paper.To(c.at); err != nil || !same(f.X, c.want.X) || !same(f.Y, c.want.Y) {
			t.Errorf("%v: to %x, %v", c, f, err)
		}
		if along, across, err := c.paper.Stretch(c.at); err != nil || !same(along, c.along) || !same(across, c.across) {
			t.Errorf("%v: stretch %x, %x, %v", c, along, across, err)
		}
	}
}

// P42: a longitude counts once around, and so does the middle.
func TestToAround(t *testing.T) {
	for _, kind := range kinds() {
		p := paper(t, wgs84, kind, 20*degree, 1)
		want, err := p.To(place(33*degree, 44*degree))
		if err != nil {
			t.Error(kind, err)
		}
		for _, turns := range []int{-5, -1, 1, 7} {
			q := p
			q.Mid += 3 * turns * api.Turn
			f, err := q.To(place(33*degree+turns*api.Turn, 44*degree))
			if err != nil || f != want {
				t.Error(kind, turns, f, want, err)
			}
		}
	}
}

// P42, P44.
func TestToOfLatitudes(t *testing.T) {
	for _, kind := range kinds() {
		least := -89 * degree
		if kind == "polar" {
			least = 0
		}
		p := paper(t, wgs84, kind, 0, 1)
		for _, lat := range []int{least, 0, 89 * degree} {
			_, err := p.To(place(math.MaxInt, lat))
			_, _, other := p.Stretch(place(math.MinInt, lat))
			if err != nil || other != nil {
				t.Error(kind, lat, err, other)
			}
		}
		for _, lat := range []int{least - 1, 89*degree + 1, -89*degree - 1, api.Turn / 4, -api.Turn / 4, api.Turn, math.MaxInt, math.MinInt} {
			wrongTo(t, p, place(0, lat), api.ErrRange)
		}
	}
}

// wrongTo: To and Stretch tell one error, and nothing else.
func wrongTo(t *testing.T, p flat.Paper, at api.Place, want error) {
	t.Helper()
	f, err := p.To(at)
	along, across, other := p.Stretch(at)
	if err != want || other != want || f != (api.Flat{}) || along != 0 || across != 0 {
		t.Error(p, at, f, err, along, across, other)
	}
}
