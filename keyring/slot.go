package keyring

import (
	"casket/aead"
	"casket/api"
	"casket/kdf"
	"casket/sha"
)

const (
	masterSize  = 32
	idSize      = 16
	saltSize    = 16
	nonceSize   = 24
	tagSize     = 16
	slotCoins   = saltSize + nonceSize
	wrappedSize = nonceSize + masterSize + tagSize
	slotKeySize = 32
)

func isPassphrase(pass string) bool { return len(pass) >= 1 && len(pass) <= api.MaxPass }

func areRounds(rounds int) bool { return rounds >= 1 && rounds <= api.MaxRounds }

// slotFault is why no slot may be made of this, or OK. The passphrases are all that the call was handed, the one under
// which the ring is to open too: they are looked at together.
func slotFault(rounds int, coins string, coinsWanted int, passes ...string) api.Errno {
	for _, pass := range passes {
		if !isPassphrase(pass) {
			return api.ErrArg
		}
	}
	if !areRounds(rounds) {
		return api.ErrRounds
	}
	if len(coins) != coinsWanted {
		return api.ErrCoins
	}
	return api.OK
}

// makeSlot wraps the master key. The coins are a salt, and a nonce behind it.
func makeSlot(id, master, pass string, rounds int, coins string) (api.RingSlot, api.Errno) {
	slot := api.RingSlot{Salt: coins[:saltSize], Rounds: rounds}
	nonce := coins[saltSize:]
	key, e := slotKey(pass, slot)
	if e != api.OK {
		return api.RingSlot{}, e
	}
	box, e := aead.Seal(key, nonce, slotAad(id, slot), master)
	if e != api.OK {
		return api.RingSlot{}, e
	}
	slot.Wrapped = nonce + box
	return slot, api.OK
}

// openSlot is the master key that lies in a slot, if the passphrase is the slot's.
func openSlot(id, pass string, slot api.RingSlot) (string, api.Errno) {
	key, e := slotKey(pass, slot)
	if e != api.OK {
		return "", e
	}
	return aead.Open(key, slot.Wrapped[:nonceSize], slotAad(id, slot), slot.Wrapped[nonceSize:])
}

// slotKey takes the passphrase's sum, since kdf's keyed sum does not tell a short key from one with zeros behind it.
func slotKey(pass string, slot api.RingSlot) (string, api.Errno) {
	return kdf.PBKDF2(sha.Sum("casket passphrase", pass), slot.Salt, slot.Rounds, slotKeySize)
}

// slotAad binds what is wrapped to its ring and to how its key was made.
func slotAad(id string, slot api.RingSlot) string {
	return "casket ring" + id + slot.Salt + fourBytes(uint32(slot.Rounds))
}

func fourBytes(n uint32) string {
	return string([]byte{byte(n >> 24), byte(n >> 16), byte(n >> 8), byte(n)})
}
