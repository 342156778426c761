package telem

import "gnomon/registry"

// Registry tells the registry of a Telem.
func (t *Telem) Registry() *registry.Registry { return t.registry }

// Stripe tells the stripe of a handle.
func (t *Telem) Stripe(h int) int { return t.of(h).Stripe() }
