package field

import (
	"cmp"
	"slices"
	"sync"
	"sync/atomic"

	"mercator/api"
)

// Zone of a raster.
type Zone struct{ Id, Cells, Sum, Low, High int }

// Zones of a raster, side by side.
func Zones(a, zones api.Raster, workers int) ([]Zone, error) {
	if err := alike(a, zones); err != nil {
		return nil, err
	}
	if !within(workers, 1, api.Workers) {
		return nil, api.ErrShape
	}
	all := map[int]Zone{}
	for found := range rowsOf(a, zones, workers) {
		for id, zone := range found {
			all[id] = joined(all[id], zone)
		}
	}
	out := make([]Zone, 0, len(all))
	for _, zone := range all {
		out = append(out, zone)
	}
	slices.SortFunc(out, func(a, b Zone) int { return cmp.Compare(a.Id, b.Id) })
	return out, nil
}

// rowsOf zones: what the workers found in each row, in whatever order; all of them are done when it answers.
func rowsOf(a, zones api.Raster, workers int) <-chan map[int]Zone {
	found := make(chan map[int]Zone, a.High) // room for all rows: nobody waits to send
	var next atomic.Int64
	var busy sync.WaitGroup
	for range workers {
		busy.Add(1)
		go func() {
			defer busy.Done()
			for row := int(next.Add(1)) - 1; row < a.High; row = int(next.Add(1)) - 1 {
				found <- zonesOf(a, zones, row)
			}
		}()
	}
	busy.Wait()
	close(found)
	return found
}

// zonesOf one row.
func zonesOf(a, zones api.Raster, row int) map[int]Zone {
	found := map[int]Zone{}
	for cell := row * a.Wide; cell < (row+1)*a.Wide; cell++ {
		id, height := zones.L[cell], a.L[cell]
		found[id] = joined(found[id], Zone{Id: id, Cells: 1, Sum: height, Low: height, High: height})
	}
	return found
}

// joined: two parts of one zone; the first may have no cell yet.
func joined(a, b Zone) Zone {
	if a.Cells == 0 {
		return b
	}
	return Zone{Id: a.Id, Cells: a.Cells + b.Cells, Sum: a.Sum + b.Sum, Low: min(a.Low, b.Low), High: max(a.High, b.High)}
}
