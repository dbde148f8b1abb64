"""The calls on a picture: each answers a list of its own and keeps nothing."""

from solidpicture.limits import FARTHEST_DEPTH, draw_refusal, faces_refusal, is_picture_size
from solidpicture.placing import face_triangles, has_area, moved_faces
from solidpicture.triangles import Canvas, draw_triangle


def clear(w, h, color, pix, depth):
    """Answer 0, w times h pixels of color and as many farthest depths; [-1] for a wrong size.

    What pix and depth hold does not matter: nothing of the old picture stays.
    """
    # Nothing may be reckoned from w and h before this: two sides below 0 have a product above 0.
    if not is_picture_size(w, h):
        return [-1]
    pixels = w * h
    return [0] + [color] * pixels + [FARTHEST_DEPTH] * pixels


def draw(w, h, n, faces, mode, pix, depth, m, corners, index, pattern, window):
    """Answer 0, then the pixels and the depths of the picture with all faces drawn on it, in order.

    [-1] if a size, a count or the mode is wrong; else [-2] if a number of the lists is.
    """
    refusal = draw_refusal(w, h, n, faces, mode, depth, m, corners, index, window)
    if refusal < 0:
        return [refusal]
    canvas = Canvas(w, h, mode, pix, depth, pattern, window)
    for face in moved_faces(m, corners, faces, index):
        for triangle in face_triangles(w, h, face):
            draw_triangle(canvas, triangle)
    return [0] + canvas.pix + canvas.depth


def faces_of(w, h, n, faces, m, corners, index):
    """Answer how many faces have a triangle on a picture of w by h pixels that isn't flat, in a list of one number.

    [-1] if a size or a count is wrong; else [-2] if a number of the lists is.
    """
    refusal = faces_refusal(w, h, n, faces, m, corners, index)
    if refusal < 0:
        return [refusal]
    counted = [face for face in moved_faces(m, corners, faces, index) if has_area(w, h, face)]
    return [len(counted)]
