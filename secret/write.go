package secret

import "shibboleth/api"

// write returns the number of the step of p that yields t, which can be constructed. It adds the
// steps that are missing.
func (m *Mind) write(p *plan, t api.ID) int {
	n, is := p.step(t)
	if is {
		return n
	}
	v, _ := m.arena.View(t)
	switch v.Kind {
	case api.TmShare:
		n = m.writeShare(p, v)
	case api.TmList:
		n = m.writeList(p, v)
	default:
		n = p.add(operation(v, m.writeAll(p, v.Args)))
	}
	p.steps[t] = n
	return n
}

// writeAll returns the numbers of the steps that yield the terms of l.
func (m *Mind) writeAll(p *plan, l []api.ID) []int {
	var steps []int
	for _, t := range l {
		steps = append(steps, m.write(p, t))
	}
	return steps
}

// writeShare raises what the share can be raised from to one exponent after the other.
func (m *Mind) writeShare(p *plan, v api.Node) int {
	from, rest, _ := m.start(v)
	var n int
	if from == api.None {
		n = p.add(api.Op{Kind: api.OpBase, S: v.S})
	} else {
		n = m.write(p, from)
	}
	for _, x := range m.writeAll(p, rest) {
		n = p.add(api.Op{Kind: api.OpExp, A: n, B: x})
	}
	return n
}

// writeList appends one element after the other to the empty list.
func (m *Mind) writeList(p *plan, v api.Node) int {
	elements := m.writeAll(p, v.Args)
	n := p.add(api.Op{Kind: api.OpEmpty})
	for _, x := range elements {
		n = p.add(api.Op{Kind: api.OpAdd, A: n, B: x})
	}
	return n
}

// operation returns the step that makes a term, neither a share nor a list, of the results of the
// steps for its parts.
func operation(v api.Node, parts []int) api.Op {
	switch v.Kind {
	case api.TmNonce:
		return api.Op{Kind: api.OpNonce, A: v.B}
	case api.TmPub:
		return api.Op{Kind: api.OpPub, A: parts[0]}
	case api.TmSig:
		return api.Op{Kind: api.OpSign, A: parts[0], B: parts[1], S: v.S}
	case api.TmHash:
		return api.Op{Kind: api.OpHash, A: parts[0]}
	case api.TmDerive:
		// One byte, whatever it is: string(rune(..)) would make two of a great one.
		return api.Op{Kind: api.OpDerive, A: parts[0], B: parts[1], C: parts[2], S: string([]byte{byte(v.B)})}
	case api.TmSeal:
		return api.Op{Kind: api.OpSeal, A: parts[0], B: parts[1], C: v.B}
	}
	return api.Op{Kind: api.OpData, S: v.S}
}
