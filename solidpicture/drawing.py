"""The calls on a picture: each answers a list of its own and keeps nothing."""

LONGEST_SIDE = 1024
FARTHEST_DEPTH = 16777215


def is_picture_size(w, h):
    """Tell whether there are pictures of w by h pixels."""
    return 1 <= w <= LONGEST_SIDE and 1 <= h <= LONGEST_SIDE


def clear(w, h, color, pix, depth):
    """Answer 0, w times h pixels of color and as many farthest depths; [-1] for a wrong size.

    What pix and depth hold does not matter: nothing of the old picture stays.
    """
    # Nothing may be reckoned from w and h before this: two sides below 0 have a product above 0.
    if not is_picture_size(w, h):
        return [-1]
    pixels = w * h
    return [0] + [color] * pixels + [FARTHEST_DEPTH] * pixels
