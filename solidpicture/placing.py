"""From a face's corners to its triangles on the picture: moved, cut, put on the picture.

A corner is a list of ten numbers. At first and when moved: x, y, z, w; on the picture: X, Y, Z, Q;
behind these four always red, green, blue, cover, u, v.
"""

from solidpicture.limits import CORNER_NUMBERS, FARTHEST_DEPTH

CUT_W = 4096
FARTHEST_PLACE = 32768
MIDDLE_DEPTH = 8388608
ONE_SHARE = 268435456


def times(row, place):
    """Multiply a row of the matrix with a place."""
    return sum([factor * number for factor, number in zip(row, place)])


def moved_corner(m, corner):
    """Move one corner by the matrix."""
    place = corner[:4]
    return [times(m[start:start + 4], place) >> 16 for start in (0, 4, 8, 12)] + corner[4:]


def moved_corners(m, corners):
    """Move every corner by the matrix, and answer them as a list of corners."""
    starts = list(range(0, len(corners), CORNER_NUMBERS))
    return [moved_corner(m, corners[start:start + CORNER_NUMBERS]) for start in starts]


def moved_faces(m, corners, faces, index):
    """Answer the faces in order, each as the list of its three moved corners."""
    moved = moved_corners(m, corners)
    named = [moved[k] for k in index]
    return [named[start:start + 3] for start in range(0, 3 * faces, 3)]


def is_in_front(corner):
    """Tell whether a moved corner lies on the side of the plane that is drawn."""
    return corner[3] >= CUT_W


def crossing(front, behind):
    """Answer the corner where the edge between both meets the plane, reckoned from the one in front."""
    t = (front[3] - CUT_W) * 65536 // (front[3] - behind[3])
    corner = [near + (((far - near) * t) >> 16) for near, far in zip(front, behind)]
    # Reckoned like the others, w could miss the plane, as t is rounded.
    corner[3] = CUT_W
    return corner


def cut_face(face):
    """Answer the corners that are left of a moved face in front of the plane: none, three or four."""
    kept = []
    for first, second in zip(face, face[1:] + face[:1]):
        if is_in_front(first):
            kept.append(first)
            if not is_in_front(second):
                kept.append(crossing(first, second))
        elif is_in_front(second):
            kept.append(crossing(second, first))
    return kept


def put_corner(w, h, corner):
    """Put a moved corner on a picture of w by h pixels, where 16 is a pixel; share is its Q."""
    own_w = corner[3]
    across = 8 * w + corner[0] * w * 8 // own_w
    down = 8 * h - corner[1] * h * 8 // own_w
    depth = MIDDLE_DEPTH + corner[2] * MIDDLE_DEPTH // own_w
    share = ONE_SHARE // own_w
    return [across, down, min(max(depth, 0), FARTHEST_DEPTH), max(share, 1)] + corner[4:]


def is_near(corner):
    """Tell whether a corner on the picture lies so near that its face may be drawn."""
    return -FARTHEST_PLACE <= min(corner[0], corner[1]) and max(corner[0], corner[1]) <= FARTHEST_PLACE


def face_triangles(w, h, face):
    """Answer the triangles, three corners each, that a moved face has on a picture of w by h pixels."""
    corners = [put_corner(w, h, corner) for corner in cut_face(face)]
    # One corner too far off is enough: the whole face is left out, not one triangle.
    if not all([is_near(corner) for corner in corners]):
        return []
    return [[corners[0], corners[k], corners[k + 1]] for k in range(1, len(corners) - 1)]


def turn(triangle):
    """Answer N: above 0 if the triangle goes by the clock, below 0 if against it, 0 if it is flat."""
    first = triangle[0]
    second = triangle[1]
    third = triangle[2]
    return (second[0] - first[0]) * (third[1] - first[1]) - (second[1] - first[1]) * (third[0] - first[0])


def has_area(w, h, face):
    """Tell whether any triangle that a moved face has on a picture of w by h pixels isn't flat."""
    return any([turn(triangle) != 0 for triangle in face_triangles(w, h, face)])
