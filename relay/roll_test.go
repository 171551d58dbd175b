package relay_test

import (
	"math"
	"slices"

	"shibboleth/api"
	"shibboleth/conf"
	"shibboleth/prefs"
)

// roll is a row of numbers that only looks random.
type roll uint32

func (r *roll) next(n int) int {
	*r = *r*1664525 + 1013904223
	return int(uint32(*r)>>8) % n
}

// some returns some of the elements of l, in any order, and at least one.
func (r *roll) some(l ...string) []string {
	l = slices.Clone(l)
	for i := range l {
		k := i + r.next(len(l)-i)
		l[i], l[k] = l[k], l[i]
	}
	return l[:1+r.next(len(l))]
}

// cuts returns sizes of pieces.
func (r *roll) cuts() []int {
	var l []int
	for range r.next(6) {
		l = append(l, []int{0, -1, 1, 2, 3, 5, 17, 100, 1000, math.MaxInt, math.MinInt}[r.next(11)])
	}
	return l
}

// wish returns requested sizes, for some of which there is no group.
func (r *roll) wish() [3]uint32 {
	if r.next(3) == 0 {
		return [3]uint32{1025, 1025, 2047}
	}
	l := []uint32{1024, 1025, 1500, 2000, 2048, 3000, 3072, 4096, 5000, 8192}
	i := []int{r.next(len(l)), r.next(len(l)), r.next(len(l))}
	slices.Sort(i)
	return [3]uint32{l[i[0]], l[i[1]], l[i[2]]}
}

// pair returns a client and a server who may come to any outcome.
func (r *roll) pair() (api.Conf, api.Conf) {
	c, s := conf.Plain(false, r.next(2)), conf.Plain(true, 0)
	if r.next(3) > 0 {
		c.Peer = s.Own
	}
	for _, x := range []*api.Conf{&c, &s} {
		if r.next(3) > 0 {
			x.Prefs.Kex = r.some(x.Prefs.Kex...)
		}
		x.Prefs.Host = r.some(x.Prefs.Host...)
		if r.next(4) == 0 {
			x.Prefs.MacS = r.some("hmac-sha2-256", "hmac-sha2-512", "umac", "none")
		}
		x.Algs = r.some("ssh-ed25519", "rsa-sha2-256", "rsa-sha2-512", "ecdsa")
	}
	if r.next(4) == 0 {
		c.Prefs.Kex = []string{prefs.Name(api.MeGex)}
	}
	c.Ext, c.Guess, c.Wish = r.next(3) > 0, r.next(2) == 0, r.wish()
	c.User = []string{"ann", "bob"}[r.next(2)]
	c.Keys, s.Grants = nil, nil
	for range r.next(api.MaxKeys + 1) {
		c.Keys = append(c.Keys, r.next(5))
	}
	for range r.next(4) {
		s.Grants = append(s.Grants, api.Grant{User: []string{"ann", "bob"}[r.next(2)], Who: r.next(5)})
	}
	s.Limit = 1 + r.next(6)
	return c, s
}
