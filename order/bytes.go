package order

import (
	"watershed/api"
	"watershed/wire"
)

// writing is what is written of orders and answers.
type writing struct{ *wire.Writer }

func (w writing) acts(l []api.Act) {
	w.Numbers(len(l))
	for _, a := range l {
		w.Numbers(int(a.Kind)).Texts(a.Key, a.Value).Flags(a.Num < 0).Numbers(max(a.Num, -a.Num))
	}
}

func (w writing) reads(l []api.Read) {
	w.Numbers(len(l))
	for _, x := range l {
		w.Texts(x.Key).Flags(x.Is).Texts(x.Value)
	}
}

// Put is an order as bytes.
func Put(x Order) ([]byte, api.Errno) {
	if !Right(x) {
		return nil, api.ErrArg
	}
	w := writing{wire.NewWriter()}
	w.Numbers(int(x.Kind), x.Name.Client, x.Name.Num, x.Epoch)
	w.acts(x.Acts)
	w.Flags(x.Commit)
	w.reads(x.Reads)
	w.Numbers(x.Scheme, x.Stage, x.To).Texts(x.Span.Lo, x.Span.Hi).Rows(x.Bytes)
	return w.Done()
}

// PutAnswer is an answer as bytes.
func PutAnswer(x Answer) ([]byte, api.Errno) {
	if !Sound(x) {
		return nil, api.ErrArg
	}
	w := writing{wire.NewWriter()}
	w.Numbers(int(x.Err), x.Name.Client, x.Name.Num).Flags(x.Is, x.Commit)
	w.reads(x.Reads)
	w.Numbers(x.Scheme, x.Stage).Rows(x.Bytes)
	return w.Done()
}

// wrong is what is told, by a panic, of bytes that are no order, no answer.
type wrong struct{}

func must(ok bool) {
	if !ok {
		panic(wrong{})
	}
}

// reading is what is left of orders and answers that are read.
type reading struct{ *wire.Reader }

func (r reading) name() api.Name {
	return api.Name{Client: r.Number(api.MaxClients), Num: r.Number(api.MaxNum)}
}

func (r reading) act() api.Act {
	a := api.Act{Kind: api.ActKind(r.Number(int(api.ActAdd))), Key: r.Text(api.MaxKey), Value: r.Text(api.MaxValue)}
	below := r.Flag()
	a.Num = r.Number(api.MaxNum)
	must(!below || a.Num > 0)
	if below {
		a.Num = -a.Num
	}
	return a
}

func (r reading) acts() []api.Act {
	var l []api.Act
	for range r.Number(api.MaxActs) {
		l = append(l, r.act())
	}
	return l
}

func (r reading) reads() []api.Read {
	var l []api.Read
	for range r.Number(api.MaxActs) {
		l = append(l, api.Read{Key: r.Text(api.MaxKey), Is: r.Flag(), Value: r.Text(api.MaxValue)})
	}
	return l
}

// Get is the order whose bytes b is.
func Get(b []byte) (x Order, err api.Errno) {
	defer func() {
		if recover() != nil {
			x, err = Order{}, api.ErrShape
		}
	}()
	r := reading{wire.NewReader(b)}
	x = Order{
		Kind: Kind(r.Number(int(Ask))), Name: r.name(), Epoch: r.Number(api.MaxEpoch), Acts: r.acts(), Commit: r.Flag(), Reads: r.reads(),
		Scheme: r.Number(mostScheme), Stage: r.Number(mostStage), To: r.Number(api.MaxGroups),
		Span: api.Span{Lo: r.Text(api.MaxKey), Hi: r.Text(api.MaxKey)}, Bytes: r.Row(mostBytes),
	}
	must(r.End() == api.OK && Right(x))
	return x, api.OK
}

// GetAnswer is the answer whose bytes b is.
func GetAnswer(b []byte) (x Answer, err api.Errno) {
	defer func() {
		if recover() != nil {
			x, err = Answer{}, api.ErrShape
		}
	}()
	r := reading{wire.NewReader(b)}
	x = Answer{
		Err: api.Errno(r.Number(mostErr)), Name: r.name(), Is: r.Flag(), Commit: r.Flag(), Reads: r.reads(),
		Scheme: r.Number(mostScheme), Stage: r.Number(mostStage), Bytes: r.Row(api.MaxImage),
	}
	must(r.End() == api.OK && Sound(x))
	return x, api.OK
}
