package leaf

import (
	"slices"
	"strings"

	"engrosser/api"
	"engrosser/der"
	"engrosser/sum256"
)

// Make answers the entry of the chain's first certificate.
func Make(chain []string, pre bool, time, index int) (api.Entry, api.Errno) {
	if len(chain) < 1 || len(chain) > 1+api.MaxChain || !rightStand(time, index) {
		return api.Entry{}, api.ErrArg
	}
	body, poisoned, err := stripped(chain)
	switch {
	case err != api.OK:
		return api.Entry{}, err
	case poisoned[0] != pre, pre && len(chain) == 1, slices.Contains(poisoned[1:], true):
		return api.Entry{}, api.ErrForm
	}
	e := api.Entry{Body: strings.Clone(chain[0]), Chain: sums(chain[1:]), Time: time, Index: index}
	if !pre {
		return e, api.OK
	}
	key, err := der.Key(chain[1])
	if err != api.OK {
		return api.Entry{}, err
	}
	e.Pre, e.Key, e.Body, e.Full = true, key, body, e.Body
	return e, api.OK
}

// stripped answers the first certificate's body without its poison, and which of all have one; or the first error that is met.
func stripped(chain []string) (body string, poisoned []bool, err api.Errno) {
	for place, cert := range chain {
		without, pre, e := der.Strip(cert)
		if e != api.OK {
			return "", nil, e
		}
		if place == 0 {
			body = without
		}
		poisoned = append(poisoned, pre)
	}
	return body, poisoned, api.OK
}

// sums answers the sum of each certificate.
func sums(certs []string) []string {
	var all []string
	for _, cert := range certs {
		all = append(all, sum256.One(cert))
	}
	return all
}
