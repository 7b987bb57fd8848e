"""Oathledger: one ledger kept by machines of which some lie."""
