package holds

import (
	"watershed/api"
	"watershed/wire"
)

func writeActs(w *wire.Writer, l []api.Act) {
	w.Numbers(len(l))
	for _, a := range l {
		w.Numbers(int(a.Kind)).Texts(a.Value).Flags(a.Num < 0).Numbers(max(a.Num, -a.Num))
	}
}

func writeReads(w *wire.Writer, l []api.Read) {
	w.Numbers(len(l))
	for _, x := range l {
		w.Flags(x.Is).Texts(x.Value)
	}
}

// Write puts holds as bytes behind what was written.
func Write(w *wire.Writer, l ...api.Hold) *wire.Writer {
	w.Numbers(len(l))
	for _, h := range l {
		w.Texts(h.Key).Numbers(h.Name.Client, h.Name.Num)
		writeActs(w, h.Acts)
		writeReads(w, h.Reads)
		w.Flags(h.Put).Texts(h.Value)
	}
	return w
}

// readAct is an act of a key; false, if it is written as none is.
func readAct(r *wire.Reader, key string) (api.Act, bool) {
	a := api.Act{Kind: api.ActKind(r.Number(int(api.ActAdd))), Key: key, Value: r.Text(api.MaxValue)}
	below := r.Flag()
	a.Num = r.Number(api.MaxNum)
	if below {
		a.Num = -a.Num
	}
	return a, a.Num != 0 || !below
}

func readHold(r *wire.Reader) (api.Hold, bool) {
	h := api.Hold{Key: r.Text(api.MaxKey), Name: api.Name{Client: r.Number(api.MaxClients), Num: r.Number(api.MaxNum)}}
	for range r.Number(api.MaxActs) {
		a, ok := readAct(r, h.Key)
		if !ok {
			return api.Hold{}, false
		}
		h.Acts = append(h.Acts, a)
	}
	for range r.Number(api.MaxActs) {
		h.Reads = append(h.Reads, api.Read{Key: h.Key, Is: r.Flag(), Value: r.Text(api.MaxValue)})
	}
	h.Put, h.Value = r.Flag(), r.Text(api.MaxValue)
	return h, right(h)
}

// Read is the holds of a table that are read here.
func Read(r *wire.Reader) ([]api.Hold, bool) {
	var l []api.Hold
	ahead := ""
	for range r.Number(api.MaxHolds) {
		h, ok := readHold(r)
		if !ok || h.Key <= ahead {
			return nil, false
		}
		ahead = h.Key
		l = append(l, h)
	}
	if r.Left() == 0 && r.End() != api.OK { // it failed
		return nil, false
	}
	return l, true
}
