package node

import (
	"watershed/api"
	"watershed/clerk"
	"watershed/letter"
	"watershed/member"
	"watershed/order"
)

// Letter takes a letter.
func (n *Node) Letter(x api.Letter) Out {
	if n.dead() || !letter.Right(x) || x.To != n.id || x.From == n.id {
		return Out{}
	}
	kinds := map[api.LetterKind]func(api.Letter){api.LetterAnswer: n.take}
	do, is := kinds[x.Kind]
	if !is {
		do = n.pass
	}
	do(x)
	return n.end()
}

// pass gives a letter to the member of its group.
func (n *Node) pass(x api.Letter) { n.tell(x.Group)(n.members[x.Group].Letter(x)) }

// tell tells what a member of a group told.
func (n *Node) tell(g int) func([]api.Letter, []member.Applied) {
	return func(letters []api.Letter, applied []member.Applied) {
		for _, a := range applied {
			if a.Entry.Kind == api.EntryCommand {
				n.out.Told = append(n.out.Told, Deed{g, a.Index, a.Entry.Command, a.Answer})
			}
		}
		for _, x := range letters {
			if x.Kind == api.LetterAnswer && x.To == n.id {
				n.take(x)
			} else {
				n.out.Letters = append(n.out.Letters, x)
			}
		}
	}
}

// whom is the node that is asked in a group: who leads it, as far as is known, or a guess, the next one of which is another one then.
func (n *Node) whom(g int) int {
	if lead := n.members[g].State().Lead; lead != 0 {
		return lead
	}
	to := n.guesses[g]
	next := to%api.MaxNodes + 1
	if next == n.id {
		next = next%api.MaxNodes + 1
	}
	n.guesses[g] = next
	return to
}

// ask brings orders on their way.
func (n *Node) ask(l ...clerk.Ask) {
	for _, a := range l {
		b, err := order.Put(a.Order)
		if err != api.OK {
			continue // nobody could do it
		}
		x := api.Letter{Kind: api.LetterPropose, Group: a.Group, From: n.id, To: n.whom(a.Group), Term: 1, Tag: a.Tag, Bytes: b}
		if x.To == n.id {
			n.pass(x)
		} else {
			n.out.Letters = append(n.out.Letters, x)
		}
	}
}

// guess is who may lead the group, if that is another node.
func (n *Node) guess(g, who int) {
	if who >= 1 && who <= api.MaxNodes && who != n.id {
		n.guesses[g] = who
	}
}

// take takes an answer to what was asked.
func (n *Node) take(x api.Letter) {
	if !x.Ok {
		n.guess(x.Group, x.Index)
		return
	}
	n.guess(x.Group, x.From)
	a, err := order.GetAnswer(x.Bytes)
	if err != api.OK || x.Tag>>lifeBits != n.life {
		return
	}
	if x.Tag&(1<<lifeBits-1) >= half {
		n.ask(n.Mover.Answer(x.Tag, a)...)
		return
	}
	asks, replies := n.Clerk.Answer(x.Tag, a)
	n.out.Replies = append(n.out.Replies, replies...)
	n.ask(asks...)
}
