package peer

import (
	"slices"

	"throng/api"
	"throng/turns"
)

// ahead is how many turns behind its own next one a peer takes inputs for.
const ahead = 2 * api.MaxDelay

// Check returns ErrForm if p is not valid.
func Check(p api.Peer) api.Errno {
	if counted(p) && known(p) && waiting(p) && kept(p) && len(p.Hashes) <= api.MaxHashes && len(p.Hashes) <= p.Turn {
		return api.OK
	}
	return api.ErrForm
}

// counted reports whether the numbers of p are in range.
func counted(p api.Peer) bool {
	return p.Players >= 1 && p.Players <= api.MaxPeers && p.ID >= 1 && p.ID <= p.Players &&
		p.Delay >= 1 && p.Delay <= api.MaxDelay && p.Turn >= 0 && p.Turn <= api.MaxTicks &&
		p.Said >= p.Delay-1 && p.Said <= min(p.Turn+p.Delay-1, api.MaxTicks)
}

// known reports whether Has and Acked of p, whose numbers must be in range, are valid.
func known(p api.Peer) bool {
	if len(p.Has) != p.Players || len(p.Acked) != p.Players || p.Has[p.ID-1] != p.Said || p.Acked[p.ID-1] != p.Said {
		return false
	}
	for i, has := range p.Has {
		if has < max(p.Delay, p.Turn)-1 || has > min(p.Turn+ahead, api.MaxTicks) || p.Acked[i] < p.Delay-1 || p.Acked[i] > p.Said {
			return false
		}
	}
	return true
}

// waiting reports whether Inputs of p, whose Has must be valid, are valid.
func waiting(p api.Peer) bool {
	for n, i := range p.Inputs {
		if turns.Check(i) != api.OK || i.Player > p.Players || i.Turn < p.Turn || i.Turn > p.Has[i.Player-1] {
			return false
		}
		if n == 0 {
			continue
		}
		if last := p.Inputs[n-1]; last.Turn > i.Turn || last.Turn == i.Turn && last.Player >= i.Player {
			return false
		}
	}
	return true
}

// kept reports whether Mine of p, whose Acked must be valid, is valid.
func kept(p api.Peer) bool {
	acked := slices.Min(p.Acked)
	if len(p.Mine) != p.Said-acked {
		return false
	}
	for n, i := range p.Mine {
		if turns.Check(i) != api.OK || i.Player != p.ID || i.Turn != acked+1+n {
			return false
		}
	}
	return true
}

// validNote reports whether n is valid.
func validNote(n api.Note) bool {
	return isPlayer(n.From) && isPlayer(n.To) && n.From != n.To && isDone(n.Done) && isDone(n.Have) &&
		(n.Done >= 0 || n.Hash == 0) && validInput(n)
}

// validInput reports whether n tells an input of From, or none.
func validInput(n api.Note) bool {
	if n.Input.Turn == -1 {
		return n.Input.Player == 0 && len(n.Input.Commands) == 0
	}
	return turns.Check(n.Input) == api.OK && n.Input.Player == n.From
}

// isPlayer reports whether n may be the number of a player.
func isPlayer(n int) bool { return n >= 1 && n <= api.MaxPeers }

// isDone reports whether n may be the last turn of something.
func isDone(n int) bool { return n >= -1 && n <= api.MaxTicks }
