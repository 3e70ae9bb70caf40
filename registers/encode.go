package registers

import (
	"slices"

	"sealwright/api"
	"sealwright/digest"
	"sealwright/wire"
)

// Encode returns the byte form of r: the active banks, Updates, and all values of the active banks.
func Encode(r api.Registers) []byte {
	active := 0
	var values []byte
	for bank := range api.BankCount {
		if isActive(r, bank) {
			active |= 1 << bank
			values = append(values, slices.Concat(r.Banks[bank]...)...)
		}
	}
	b := wire.Uint(nil, banksSize, active)
	return append(wire.Uint(b, updatesSize, r.Updates), values...)
}

// Decode returns the registers that b is the byte form of.
func Decode(b []byte) (api.Registers, api.Errno) {
	reader := wire.New(b)
	active := reader.Uint(banksSize)
	if active >= 1<<api.BankCount {
		return api.Registers{}, api.ErrArgument
	}
	updates := reader.Uint(updatesSize)
	banks := makeBanks(active, func(bank, _ int) []byte {
		return reader.Raw(digest.Size(bank))
	})
	if err := reader.End(); err != api.OK {
		return api.Registers{}, err
	}
	return api.Registers{Banks: banks, Updates: updates}, api.OK
}
