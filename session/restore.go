package session

import (
	"quorum/api"
	"quorum/deal"
)

// Restore gives the machine of that image (P7.2).
func Restore(img api.Image) (*Machine, error) {
	if err := clockFault(img); err != nil {
		return nil, err
	}
	if err := sessionsFault(img); err != nil {
		return nil, err
	}
	house, err := deal.Restore(img.House)
	if err != nil {
		return nil, behind(err)
	}
	return build(withHouse(house), withSessions(img.Sessions), atSlot(img.Slot, img.Now)), nil
}

// clockFault refuses a slot and a time that no machine has. Ahead of the first batch there is neither a time nor a client.
func clockFault(img api.Image) error {
	switch {
	case img.Slot > api.MaxSlots:
		return refusal(0, api.ErrSessionClock)
	case img.Slot == 0 && (img.Now != 0 || len(img.Sessions) > 0):
		return refusal(0, api.ErrSessionClock)
	case img.Now > api.MaxTick:
		return refusal(1, api.ErrSessionClock)
	}
	return nil
}

// sessionsFault refuses sessions that no machine has.
func sessionsFault(img api.Image) error {
	if len(img.Sessions) > api.MaxClients {
		return refusal(api.MaxClients, api.ErrSessionOrder)
	}
	for at, s := range img.Sessions {
		switch {
		case s.Client < uint64(api.FirstClient) || at > 0 && s.Client <= img.Sessions[at-1].Client:
			return refusal(at, api.ErrSessionOrder)
		case !mayBeReply(s, img.Now):
			return refusal(at, api.ErrSessionReply)
		}
	}
	return nil
}

// mayBeReply tells whether a machine with that time can have answered so.
func mayBeReply(s api.Session, now uint64) bool {
	return s.Seq != 0 && s.Stamp <= now && s.Code >= 0 && s.Code <= api.MaxCode && len(s.Data) <= api.MaxData
}
