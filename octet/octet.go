// Package octet is layer 1: numbers, floats and texts as bytes, and back, and a check sum. See shared/doc/01-octet.md.
package octet
