"""What may be handed in, and which refusal answers what may not."""

LONGEST_SIDE = 1024
MOST_CORNERS = 4096
MOST_FACES = 8192
HIGHEST_MODE = 63
# 2^24: depths stay below it, all other numbers but colours strictly between it and its negative.
BEYOND = 16777216
FARTHEST_DEPTH = 16777215
HIGHEST_COLOR = 65535
CORNER_NUMBERS = 10
COLOR_PLACES = (4, 5, 6, 7)


def is_picture_size(w, h):
    """Tell whether there are pictures of w by h pixels."""
    return 1 <= w <= LONGEST_SIDE and 1 <= h <= LONGEST_SIDE


def are_counts(n, faces):
    """Tell whether there may be n corners and so many faces."""
    return 0 <= n <= MOST_CORNERS and 0 <= faces <= MOST_FACES


def is_mode(mode):
    """Tell whether mode is one of the 48: its two lowest bits name no fourth side to leave out."""
    return 0 <= mode <= HIGHEST_MODE and mode % 4 != 3


def are_plain_numbers(numbers):
    """Tell whether all numbers lie strictly between -2^24 and 2^24."""
    return -BEYOND < min(numbers, default=0) and max(numbers, default=0) < BEYOND


def are_colors(numbers):
    """Tell whether all numbers lie from 0 to 65535."""
    return 0 <= min(numbers, default=0) and max(numbers, default=0) <= HIGHEST_COLOR


def are_corners(corners):
    """Tell whether every corner, named by a face or not, holds only numbers that a corner may hold."""
    for place in range(CORNER_NUMBERS):
        numbers = corners[place::CORNER_NUMBERS]
        if place in COLOR_PLACES:
            allowed = are_colors(numbers)
        else:
            allowed = are_plain_numbers(numbers)
        if not allowed:
            return False
    return True


def is_solid(n, m, corners, index):
    """Tell whether matrix, corners and index may be drawn from."""
    return are_plain_numbers(m) and are_corners(corners) and max(index, default=-1) < n


def faces_refusal(w, h, n, faces, m, corners, index):
    """Answer -1 or -2 if the faces of what was handed in must not be looked at, else 0."""
    # All sizes first: -1 goes before -2, and lists are only handed in full where the sizes are right.
    if not (is_picture_size(w, h) and are_counts(n, faces)):
        return -1
    if not is_solid(n, m, corners, index):
        return -2
    return 0


def draw_refusal(w, h, n, faces, mode, depth, m, corners, index, window):
    """Answer -1 or -2 if draw must refuse what it was handed, else 0."""
    # The mode ahead of all numbers, for the same reason as the sizes.
    if not is_mode(mode):
        return -1
    refusal = faces_refusal(w, h, n, faces, m, corners, index)
    if refusal < 0:
        return refusal
    if not (are_plain_numbers(window) and max(depth) < BEYOND):
        return -2
    return 0
