package der_test

import (
	"crypto"
	"crypto/ecdh"
	"crypto/ed25519"
	"crypto/rsa"
	"crypto/x509"
	"crypto/x509/pkix"
	"math/big"
	"slices"
	"testing"
	"time"

	"engrosser/api"
	"engrosser/der"
	"engrosser/sample"
)

// signer answers a key that is the same one each time.
func signer(seed int) ed25519.PrivateKey {
	return ed25519.NewKeyFromSeed([]byte(sample.Text(ed25519.SeedSize, seed)))
}

// someKeys are public keys of Go's own library, of some sizes.
func someKeys(t *testing.T) []crypto.PublicKey {
	t.Helper()
	curve, err := ecdh.P256().NewPrivateKey([]byte("a number of thirty-two bytes ..."))
	if err != nil {
		t.Fatal(err)
	}
	all := []crypto.PublicKey{signer(1).Public(), curve.PublicKey()}
	for _, size := range []int{128, 256, 384} {
		number := []byte(sample.Text(size, 2))
		number[0] |= 0x80
		number[size-1] |= 1
		all = append(all, &rsa.PublicKey{N: new(big.Int).SetBytes(number), E: 65537})
	}
	return all
}

// goExtension answers one that Go's own library is to write.
func goExtension(critical bool, value string, name ...int) pkix.Extension {
	return pkix.Extension{Id: name, Critical: critical, Value: []byte(value)}
}

// goPoison answers the poison as Go's own library is to write it.
func goPoison() pkix.Extension {
	return goExtension(true, "\x05\x00", 1, 3, 6, 1, 4, 1, 11129, 2, 4, 3)
}

// goCert answers a certificate that Go's own library wrote and reads.
func goCert(t *testing.T, name string, key crypto.PublicKey, exts ...pkix.Extension) *x509.Certificate {
	t.Helper()
	plan := &x509.Certificate{
		SerialNumber: big.NewInt(int64(1000 + len(name))), Subject: pkix.Name{CommonName: name}, ExtraExtensions: exts,
		NotBefore: time.Date(2026, 11, 20, 0, 0, 0, 0, time.UTC), NotAfter: time.Date(2027, 11, 20, 0, 0, 0, 0, time.UTC),
	}
	issuer := &x509.Certificate{SerialNumber: big.NewInt(1), Subject: pkix.Name{CommonName: "who signs"}}
	b, err := x509.CreateCertificate(nil, plan, issuer, key, signer(3))
	if err != nil {
		t.Fatal(err)
	}
	cert, err := x509.ParseCertificate(b)
	if err != nil {
		t.Fatal(err)
	}
	return cert
}

// P14.3: certificates of Go's own library: the body without the poison is the one that it writes without it; the key is the one that it reads.
func TestLibrary(t *testing.T) {
	for _, key := range someKeys(t) {
		for _, size := range []int{1, 20, 60, 64} {
			name := string(slices.Repeat([]byte{'n'}, size))
			for count := range 4 {
				var exts []pkix.Extension
				for at := range count {
					exts = append(exts, goExtension(at%2 == 1, sample.Text(at*70+size, at), 2, 5, 29, 100+at))
				}
				plain := goCert(t, name, key, exts...)
				checkPlain(t, string(plain.Raw))
				checkKey(t, string(plain.Raw), sumOf(string(plain.RawSubjectPublicKeyInfo)), api.OK)
				for place := range count + 1 {
					pre := goCert(t, name, key, slices.Insert(slices.Clone(exts), place, goPoison())...)
					checkStrip(t, string(pre.Raw), stripped{string(plain.RawTBSCertificate), true, api.OK})
					checkKey(t, string(pre.Raw), sumOf(string(plain.RawSubjectPublicKeyInfo)), api.OK)
				}
			}
		}
	}
}

// P14.1, P14.2: what Go's own library wrote is made of parts, which make it again.
func TestLibraryParts(t *testing.T) {
	cert := goCert(t, "of parts", signer(4).Public(), goPoison(), goExtension(false, "x", 2, 5, 29, 100))
	whole, e := der.Next(string(cert.Raw))
	if e != api.OK || whole.Rest != "" {
		t.Errorf("got %x, %s, %d", whole.Tag, short(whole.Rest), e)
	}
	parts, e := der.Parts(whole.Text)
	if len(parts) != 3 || e != api.OK {
		t.Fatalf("got %d parts, %d", len(parts), e)
	}
	if body, e := der.Wrap(parts[0].Tag, parts[0].Text); body != string(cert.RawTBSCertificate) || e != api.OK {
		t.Errorf("got %s, %d", short(body), e)
	}
	if end := parts[2].Text; end != "\x00"+string(cert.Signature) || parts[2].Tag != 3 {
		t.Errorf("got %x, %s", parts[2].Tag, short(end))
	}
	fields, e := der.Parts(parts[0].Text)
	if len(fields) != 8 || fields[7].Tag != 0xa3 || e != api.OK {
		t.Errorf("got %d fields, %d", len(fields), e)
	}
}
