"""Solid things drawn exactly, in whole numbers alone."""
