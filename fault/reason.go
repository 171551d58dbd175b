package fault

import (
	"shibboleth/api"
)

// The disconnect reasons of RFC 4253 that errors have.
const (
	noReason           = 0
	protocolError      = 2
	exchangeFailed     = 3
	macError           = 5
	serviceMissing     = 7
	versionUnsupported = 8
	hostNotVerifiable  = 9
	byApplication      = 11
	noMoreMethods      = 14
)

// ReasonOf returns the disconnect reason of an error's number.
func ReasonOf(e api.Errno) int {
	switch e {
	case api.OK:
		return noReason
	case api.ErrForm, api.ErrShort, api.ErrLong, api.ErrOrder, api.ErrArg, api.ErrNone, api.ErrRule:
		return protocolError
	case api.ErrAlg, api.ErrRange:
		return exchangeFailed
	case api.ErrSeal:
		return macError
	case api.ErrService:
		return serviceMissing
	case api.ErrLine:
		return versionUnsupported
	case api.ErrHost:
		return hostNotVerifiable
	case api.ErrAuth:
		return noMoreMethods
	}
	return byApplication
}
