import PyProof.Rows.All
import Wide.All
import OpenK.AllK
import Wide.FinOn
import KE.OsGo
import KE.OsArgs
import PySem.Challenge.RW_solidpicture_s01_clear
open PySem PySem.W PyProof.Rows
set_option Elab.async false
namespace My
theorem sized_iff (w h : Int) : Sd21.sized w h = true ↔ 1 ≤ w ∧ w ≤ 1024 ∧ 1 ≤ h ∧ h ≤ 1024 := by
  unfold Sd21.sized Sd21.SIZE
  rw [decide_eq_true_eq]
  omega
theorem ints_rep (n k : Nat) : Sd21Neutral.ints (List.replicate n k) = List.replicate n (k : Int) := by
  unfold Sd21Neutral.ints
  rw [List.map_replicate]
theorem clear_in {w h color : Int} {pix depth : List Int} (hc : 0 ≤ color) (k : 1 ≤ w ∧ w ≤ 1024 ∧ 1 ≤ h ∧ h ≤ 1024) :
    PySd21.clear w h color pix depth = 0 :: (List.replicate (w * h).toNat color ++ List.replicate (w * h).toNat 16777215) := by
  have e := (sized_iff w h).mpr k
  show (let a := Sd21.answer (.clear w h (Sd21Neutral.nats pix) (Sd21Neutral.nats depth) color.toNat); if a.value = 0 ∧ Sd21Neutral.counts [[1, w, h, color], pix, depth] = false then 0 :: (Sd21Neutral.ints a.pix ++ Sd21Neutral.ints a.depth) else [a.value]) = _
  have e2 : Sd21.answer (.clear w h (Sd21Neutral.nats pix) (Sd21Neutral.nats depth) color.toNat) = ⟨0, List.replicate (w * h).toNat color.toNat, List.replicate (w * h).toNat (2 ^ 24 - 1)⟩ := by
    show (if Sd21.sized w h = false then _ else _) = _
    rw [e, if_neg (by decide)]
  rw [e2]
  dsimp only
  rw [if_pos ⟨rfl, rfl⟩, ints_rep, ints_rep, Int.toNat_of_nonneg hc]
  rfl
theorem clear_out {w h color : Int} {pix depth : List Int} (k : ¬ (1 ≤ w ∧ w ≤ 1024 ∧ 1 ≤ h ∧ h ≤ 1024)) : PySd21.clear w h color pix depth = [-1] := by
  have e : Sd21.sized w h = false := by
    cases q : Sd21.sized w h with
    | false => rfl
    | true => exact absurd ((sized_iff w h).mp q) k
  show (let a := Sd21.answer (.clear w h (Sd21Neutral.nats pix) (Sd21Neutral.nats depth) color.toNat); if a.value = 0 ∧ Sd21Neutral.counts [[1, w, h, color], pix, depth] = false then 0 :: (Sd21Neutral.ints a.pix ++ Sd21Neutral.ints a.depth) else [a.value]) = _
  have e2 : (Sd21.answer (.clear w h (Sd21Neutral.nats pix) (Sd21Neutral.nats depth) color.toNat)).value = -1 := by
    show Sd21.Ans.value (if Sd21.sized w h = false then _ else _) = _
    rw [e, if_pos rfl]
  dsimp only
  rw [e2, if_neg (fun z => absurd z.1 (by decide))]
theorem rep_flat (n : Nat) (z : Int) : (List.replicate n [z]).flatten = List.replicate n z := by
  induction n with
  | zero => rfl
  | succ n ih =>
    rw [List.replicate_succ, List.flatten_cons, ih]
    rfl
theorem last {p w h color : Int} {pix depth : List Int} (ep : p = w * h) (hc : 0 ≤ color) (k : 1 ≤ w ∧ w ≤ 1024 ∧ 1 ≤ h ∧ h ≤ 1024) :
    ofPy (PyData.list (List.map PyData.int ([0] ++ (List.replicate p.toNat [color]).flatten ++ (List.replicate p.toNat [16777215]).flatten))) = WData.list (List.map WData.int (PySd21.clear w h color pix depth)) := by
  rw [clear_in hc k, rep_flat, rep_flat, ep]
  exact os_list rfl
section
variable {prog : Program} {w : World} {A : Around} {E : Value → Shared → Prop} {s : Shared} {x y : Int} {t u : Tok} {Q : Value → Shared → Prop}
theorem step_area (x1 : 1 ≤ x) (x2 : x ≤ 1024) (y1 : 1 ≤ y) (y2 : y ≤ 1024)
    (h : ∀ p : Int, p = x * y → 1 ≤ p → p ≤ 1048576 → Q (.int p s.toks) { s with toks := s.toks + 1 }) :
    wpAny (model prog w) A (binaryOp .Mult (.int x t) (.int y u)) Q E s := by
  refine PyProof.Rows.mul_int (h _ rfl ?_ ?_) (PySem.IntMulOk.of_right (PySem.intBits_le_64 (by omega) (by omega)))
  · have := Int.mul_le_mul x1 y1 (by omega) (by omega)
    omega
  · have := Int.mul_le_mul x2 y2 (by omega) (by omega)
    omega
end
end My
local macro_rules | `(tactic| walk_at "binaryOp Mult int int") => `(tactic| (k_here; (with_reducible refine' My.step_area ?k1 ?k2 ?k3 ?k4 ?_); (case k1 => k_dflt omega); (case k2 => k_dflt omega); (case k3 => k_dflt omega); (case k4 => k_dflt omega); intro p' ep' lo' hi'))
theorem My.said : PySem.Challenge.rw_solidpicture_s01_clear.wellSaid = true := by decide +kernel
set_option maxRecDepth 100000 in
set_option maxHeartbeats 8000000 in
theorem PySem.Challenge.cw_solidpicture_s01_clear_holds : PySem.Challenge.rw_solidpicture_s01_clear.Holds := by
  open_ks with [.int 0, .int 0, .int 0, .list [], .list []]
  all_goals (
    os_open My.said with a wb q e
    obtain ⟨w, h, color, pix, depth, u⟩ := a
    have e1 := os_j_int (List.cons.inj e).1
    have e2 := os_j_int (List.cons.inj (List.cons.inj e).2).1
    have e3 := os_j_int (List.cons.inj (List.cons.inj (List.cons.inj e).2).2).1
    have q1 : (Codec.inInt (-2147483648) 2147483647 w && (Codec.inInt (-2147483648) 2147483647 h && (Codec.inInt 0 4294967295 color && _))) = true := wb
    rw [Bool.and_eq_true, Bool.and_eq_true, Bool.and_eq_true] at q1
    have hc : 0 ≤ color := (Codec.inInt_iff.mp q1.2.2.1).1
    clear e q1 q wb
    subst e1 e2 e3
    show ofPy (PyData.list _) = WData.list (List.map WData.int (PySd21.clear _ _ _ _ _))
    dsimp only)
  all_goals first
    | (rw [My.clear_out (by omega)]; exact os_list rfl)
    | exact My.last (by assumption) (by assumption) (by omega)
#print axioms PySem.Challenge.cw_solidpicture_s01_clear_holds
