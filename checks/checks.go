// Package checks has tests alone: of what holds for all layers, whichever is built.
package checks
