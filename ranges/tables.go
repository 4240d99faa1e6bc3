package ranges

import (
	"cardex/api"
)

// Letters tells the characters that are letters.
func Letters() []api.Range {
	return []api.Range{
		{Low: 65, High: 90},
		{Low: 97, High: 122},
		{Low: 192, High: 214},
		{Low: 216, High: 246},
		{Low: 248, High: 591},
		{Low: 880, High: 1_327},
		{Low: 19_968, High: 40_959},
	}
}

// Banned tells the characters that no name may have.
func Banned() []api.Range {
	return []api.Range{
		{Low: 0, High: 31},
		{Low: 127, High: 160},
		{Low: 5_760, High: 5_760},
		{Low: 8_192, High: 8_202},
		{Low: 8_232, High: 8_239},
		{Low: 8_287, High: 8_287},
		{Low: 12_288, High: 12_288},
		{Low: 57_344, High: 63_743},
		{Low: 65_533, High: 65_535},
		{Low: 917_504, High: 917_631},
		{Low: 983_040, High: 1_114_111},
	}
}

// RightLeft tells the characters that are written from right to left.
func RightLeft() []api.Range {
	return []api.Range{
		{Low: 1_424, High: 1_535},
		{Low: 1_536, High: 1_791},
		{Low: 64_285, High: 64_335},
	}
}

// Gone tells the characters that are left out of a name.
func Gone() []api.Range {
	return []api.Range{
		{Low: 173, High: 173},
		{Low: 847, High: 847},
		{Low: 6_150, High: 6_150},
		{Low: 8_203, High: 8_205},
		{Low: 8_288, High: 8_288},
		{Low: 65_024, High: 65_039},
		{Low: 65_279, High: 65_279},
	}
}
