package generate

import (
	"slices"

	"spring/api"
	"spring/digest"
)

// macGenerator is the kind ByMac: K and V of the document.
type macGenerator struct {
	key   [api.Length]byte
	value [api.Length]byte
}

func (m *macGenerator) Seed(seed []byte) {
	*m = macGenerator{}
	for i := range m.value {
		m.value[i] = 1
	}
	m.stir(seed)
}

func (m *macGenerator) Reseed(fresh []byte) {
	m.stir(fresh)
}

func (m *macGenerator) Read(n int, extra []byte, _ uint64) []byte {
	if len(extra) > 0 {
		m.stir(extra)
	}
	// Just n bytes long, so that nothing of the last V lies in the answer's spare room.
	out := make([]byte, n)
	for at := 0; at < n; at += api.Length {
		m.step()
		copy(out[at:], m.value[:])
	}
	m.stir(extra)
	return out
}

// stir works bytes into K and V.
func (m *macGenerator) stir(data []byte) {
	m.rekey(0, data)
	if len(data) > 0 {
		m.rekey(1, data)
	}
}

// rekey is one half of stirring: mark keeps the halves apart.
func (m *macGenerator) rekey(mark byte, data []byte) {
	m.key = digest.Mac(m.key[:], slices.Concat(m.value[:], []byte{mark}, data))
	m.step()
}

// step moves V on to the next one.
func (m *macGenerator) step() {
	m.value = digest.Mac(m.key[:], m.value[:])
}
