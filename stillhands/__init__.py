"""Stillhands: things for several hands that nobody can hold up."""
