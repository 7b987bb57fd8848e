"""Looking into objects, for tests that say that nothing changed."""


def inside(value):
    """All that an object holds, as plain values that can be compared."""
    if isinstance(value, dict):
        return ("dict", [(inside(key), inside(item)) for key, item in value.items()])
    if isinstance(value, (list, tuple)):
        return (type(value).__name__, [inside(item) for item in value])
    if hasattr(value, "__dict__"):
        return (type(value).__name__, [(name, inside(item)) for name, item in sorted(vars(value).items())])
    return value


def leaves(value):
    """All tuples, and all values in them, that an object holds."""
    found = []
    if isinstance(value, dict):
        for key, item in value.items():
            found.extend(leaves(key) + leaves(item))
    elif isinstance(value, (list, tuple)):
        if isinstance(value, tuple):
            found.append(value)
        for item in value:
            found.extend(leaves(item))
    elif hasattr(value, "__dict__"):
        for item in vars(value).values():
            found.extend(leaves(item))
    else:
        found.append(value)
    return found
