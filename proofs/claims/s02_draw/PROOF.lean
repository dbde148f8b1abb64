import PyProof.Rows.All
import Wide.All
import OpenK.AllK
import Wide.FinOn
import PyProof.EqAt
import PyProof.EqKinds
import PyProof.TupleCall
import KE.BitLaws
import Open.SpecLaws
import KE.OsHead
import KE.OsGo
import KE.KMinKey
import PySem.Challenge.RW_solidpicture_s02_draw
section
set_option Elab.async false
set_option linter.all false
set_option maxRecDepth 100000
/-! THE HAND LAYER, for ints, bools, texts, own classes, lists, tuples, dicts, comprehensions, walks over dicts, enumerate, zip, reversed, texts, calls, loops. Paste it whole ahead of your own text; what your proof does not reach may be deleted. -/
namespace L2
open PySem PySem.Spec PyProof.Rows

/-- a key: an int or a str -/
abbrev Key := Sum Int Str
def keyIs : Key → Value → Bool
  | .inl k, v => Value.isInt k v
  | .inr x, v => Value.isStrOf x v
def keyH (w : World) : Key → Int
  | .inl k => hashInt k
  | .inr x => hashStr w x
theorem keyIs_shape : ∀ {k : Key} {v : Value}, keyIs k v = true → (∃ i t, k = Sum.inl i ∧ v = Value.int i t) ∨ (∃ x t, k = Sum.inr x ∧ v = Value.str x t)
  | .inl i, v, h => by
    obtain ⟨t, e⟩ := Value.isInt_shape (k := i) (v := v) h
    exact .inl ⟨i, t, rfl, e⟩
  | .inr x, v, h => by
    obtain ⟨t, e⟩ := Value.isStrOf_shape (x := x) (v := v) h
    exact .inr ⟨x, t, rfl, e⟩
theorem key_ll (a b : Int) : decide ((Sum.inl a : Key) = Sum.inl b) = (a == b) := by
  by_cases e : a = b
  · subst e; simp
  · have h : ¬ (Sum.inl a : Key) = Sum.inl b := fun q => e (Sum.inl.inj q)
    rw [decide_eq_false h]
    exact (beq_eq_false_iff_ne.mpr e).symm
theorem key_rr (a b : Str) : decide ((Sum.inr a : Key) = Sum.inr b) = decide (a = b) := by
  by_cases e : a = b
  · subst e; simp
  · have h : ¬ (Sum.inr a : Key) = Sum.inr b := fun q => e (Sum.inr.inj q)
    rw [decide_eq_false h, decide_eq_false e]
theorem key_lr (a : Int) (b : Str) : decide ((Sum.inl a : Key) = Sum.inr b) = false := decide_eq_false (fun q => nomatch q)
theorem key_rl (a : Str) (b : Int) : decide ((Sum.inr a : Key) = Sum.inl b) = false := decide_eq_false (fun q => nomatch q)

def mixKind (prog : Program) (w : World) : PySem.KeyKind prog w Key where
  is := keyIs
  hash := keyH w
  inj := fun v a b ha hb => by
    rcases keyIs_shape ha with ⟨i, t, rfl, rfl⟩ | ⟨x, t, rfl, rfl⟩
    · rcases keyIs_shape hb with ⟨j, u, rfl, e⟩ | ⟨y, u, rfl, e⟩
      · injection e with e1 _; rw [e1]
      · exact nomatch e
    · rcases keyIs_shape hb with ⟨j, u, rfl, e⟩ | ⟨y, u, rfl, e⟩
      · exact nomatch e
      · injection e with e1 _; rw [e1]
  byValue := fun k v h => by
    rcases keyIs_shape h with ⟨i, t, rfl, rfl⟩ | ⟨x, t, rfl, rfl⟩ <;> rfl
  pyHash := fun hv h => by
    rcases keyIs_shape hv with ⟨i, t, rfl, rfl⟩ | ⟨x, t, rfl, rfl⟩
    · exact wpAny_pyHash_int h
    · exact wpAny_pyHash_str h
  eqBool := fun hu hv h => by
    rcases keyIs_shape hu with ⟨i, t, rfl, rfl⟩ | ⟨x, t, rfl, rfl⟩
    · rcases keyIs_shape hv with ⟨j, u, rfl, rfl⟩ | ⟨y, u, rfl, rfl⟩
      · rw [key_ll] at h; exact wpAny_eqBool_int h
      · rw [key_lr] at h; exact SeqAt.EqAt.int_str i t y u _ _ _ _ h
    · rcases keyIs_shape hv with ⟨j, u, rfl, rfl⟩ | ⟨y, u, rfl, rfl⟩
      · rw [key_rl] at h; exact SeqAt.EqAt.str_int x t j u _ _ _ _ h
      · rw [key_rr] at h; exact wpAny_eqBool_str h
  «strs» := fun k x t v h => by
    rcases keyIs_shape h with ⟨i, u, rfl, e⟩ | ⟨y, u, rfl, e⟩
    · exact nomatch e
    · injection e with e1 _
      subst e1
      cases v <;> rfl
end L2

namespace L2
open PySem PySem.Spec PyProof.Rows

/-- a value, without the heap -/
inductive V where
  | non | bl (b : Bool) | int (i : Int) | str (x : Str) | byt (b : Array UInt8) | flt (b : UInt64) | ref (a : Addr) | ty (n : String)
  deriving DecidableEq

def RelV : V → Value → Prop
  | .non, u => u = Value.none
  | .bl b, u => u = Value.bool b
  | .int i, u => ∃ t, u = Value.int i t
  | .str x, u => ∃ t, u = Value.str x t
  | .byt b, u => ∃ t, u = Value.bytes b t
  | .flt b, u => ∃ t, u = Value.float b t
  | .ref a, u => u = Value.ref a
  | .ty n, u => u = Value.type n

abbrev Vals : List V → List Value → Prop := Paired RelV
theorem Vals.length {xs : List V} {us : List Value} (r : Vals xs us) : xs.length = us.length := Paired.length r
theorem Vals.get : ∀ {xs : List V} {us : List Value} {i : Nat} {x : V}, Vals xs us → xs[i]? = some x → ∃ u, us[i]? = some u ∧ RelV x u
  | _, _, _, _, .nil, e => by simp at e
  | _, _, 0, _, .cons r _, e => by simp at e; subst e; exact ⟨_, rfl, r⟩
  | _, _, i + 1, x, .cons _ t, e => by
    obtain ⟨u, h1, h2⟩ := Vals.get (i := i) (x := x) t (by simpa using e)
    exact ⟨u, by simpa using h1, h2⟩
theorem Vals.set {x : V} {u : Value} (r : RelV x u) : ∀ {xs : List V} {us : List Value} (i : Nat), Vals xs us → Vals (xs.set i x) (us.set i u)
  | _, _, _, .nil => .nil
  | _, _, 0, .cons _ t => .cons r t
  | _, _, i + 1, .cons q t => .cons q (Vals.set r i t)
theorem Vals.append : ∀ {xs ys : List V} {us ws : List Value}, Vals xs us → Vals ys ws → Vals (xs ++ ys) (us ++ ws)
  | _, _, _, _, .nil, s => s
  | _, _, _, _, .cons r t, s => .cons r (Vals.append t s)
theorem Vals.take : ∀ {xs : List V} {us : List Value} (n : Nat), Vals xs us → Vals (xs.take n) (us.take n)
  | _, _, 0, _ => .nil
  | _, _, _ + 1, .nil => .nil
  | _, _, n + 1, .cons r t => .cons r (Vals.take n t)
theorem Vals.drop : ∀ {xs : List V} {us : List Value} (n : Nat), Vals xs us → Vals (xs.drop n) (us.drop n)
  | _, _, 0, r => r
  | _, _, _ + 1, .nil => .nil
  | _, _, n + 1, .cons _ t => Vals.drop n t
def RelO : Option V → Option Value → Prop
  | some v, some u => RelV v u
  | none, none => True
  | _, _ => False
def KV {κ : Type} : List (κ × V) → List (κ × Value) → Prop := Paired fun (p : κ × V) (q : κ × Value) => p.1 = q.1 ∧ RelV p.2 q.2

/-- a key of a dict (00_mix): an int or a text -/
def kV : Key → V
  | .inl i => .int i
  | .inr x => .str x

/-- what stands at a tracked address -/
inductive HO where
  /-- a list -/
  | lst (xs : List V)
  /-- a tuple (never changes) -/
  | tup (xs : List V)
  /-- a dict whose keys are ints and texts; one whose keys are tuples of ints and texts (the empty one is both) -/
  | dK (kvs : List (Key × V)) | dT (kvs : List (List Key × V))
  /-- a set of ints: its members, its size -/
  | set (S : Int → Bool) (n : Nat)
  /-- an instance of the class at C, its dict at dx, its attributes -/
  | ins (C dx : Addr) (fs : List (Str × V))
  /-- the dict of the instance at x -/
  | own (x : Addr)
  /-- the dict of an exception -/
  | xd (fs : List (Str × V))
  /-- a bound method, f of x -/
  | met (f x : Addr)
  /-- a range object lo, lo + 1, .. below hi -/
  | rng (lo hi : Int)
  /-- a thing that is known to the object (the script; a dict while a loop walks it): read, never written while it is so -/
  | frz (o : Obj) (u : HO)
  /-- a code object's table -/
  | tbl (ps : Array Value)
  /-- any other thing, by what is true of its one object (a def of one's own: SetO a S n := HO.ext fun h => ..) -/
  | ext (φ : Heap → Prop)

abbrev Hp := Addr → Option HO
def upd (H : Hp) (a : Addr) (o : HO) : Hp := fun b => if b = a then some o else H b
theorem upd_same {H : Hp} {a : Addr} {o : HO} : upd H a o a = some o := by unfold upd; rw [if_pos rfl]
theorem upd_ne {H : Hp} {a b : Addr} {o : HO} (h : b ≠ a) : upd H a o b = H b := by unfold upd; rw [if_neg h]
/-- two objects of different content stand apart -/
theorem ne_of {H : Hp} {a b : Addr} {o u : HO} (h : H a = some o) (h' : H b = some u) (d : o ≠ u) : a ≠ b := by
  intro e; subst e; rw [h] at h'; exact d (Option.some.inj h')
theorem ne_of_none {H : Hp} {a b : Addr} {o : HO} (h : H a = some o) (h' : H b = none) : a ≠ b := by
  intro e; subst e; rw [h] at h'; cases h'

section
variable (P : Program) (w : World)
def ObjOk (H : Hp) (h : Heap) (a : Addr) : HO → Prop
  | .lst xs => xs.length ≤ sizeLine ∧ ∃ (its : List Value) (n : Nat), Vals xs its ∧ h.get? a = some { cls := .type "list", data := .seq its.toArray n }
  | .tup xs => xs.length ≤ sizeLine ∧ ∃ its : List Value, Vals xs its ∧ IsTup h a its.toArray
  | .dK kvs => kvs.length ≤ sizeLine ∧ (a == sysModules) = false ∧ ∃ vs, KV kvs vs ∧ h.DictOf (mixKind P w) a vs
  | .dT kvs => kvs.length ≤ sizeLine ∧ (a == sysModules) = false ∧ ∃ xs : List (List Key × Addr × Value),
      Paired (fun (p : List Key × V) (q : List Key × Addr × Value) => p.1 = q.1 ∧ H q.2.1 = some (.tup (p.1.map kV)) ∧ RelV p.2 q.2.2) kvs xs ∧
      ∃ o es ep, h.get? a = some o ∧ o.ExactDict ∧ o.data = .dict es ep ∧ es.toList = xs.map (entryOfKey (tupleKind (mixKind P w))) ∧ (xs.map (·.1)).Nodup
  | .set S n => h.SetOf (intKind P w) a S n
  | .ins C dx fs => H dx = some (.own a) ∧ fs.length ≤ 1000 ∧ dx ≠ a ∧ h.get? a = some (PySem.W.instObj C dx) ∧
      ∃ mA, h.Ns1 dx mA ∧ (∀ f, RelO (fs.lookup f) (mA f)) ∧ PySem.Within mA (fs.map (·.1))
  | .own _ => ∃ o, h.get? a = some o
  | .xd fs => ∃ mA, h.Ns1 a mA ∧ ∀ f, RelO (fs.lookup f) (mA f)
  | .rng lo hi => ∃ t u v, h.get? a = some { cls := .type "range", data := .fields #[.int lo t, .int hi u, .int 1 v] }
  | .frz o u => h.get? a = some o ∧ ObjOk H h a u
  | .tbl ps => h.get? a = some { cls := .none, data := .fields ps }
  | .met f x => h.get? a = some (PySem.W.methodObj (.ref f) (.ref x))
  | .ext φ => φ h ∧ (∃ o, h.get? a = some o) ∧ ∀ h1 h2 : Heap, φ h1 → (∀ o, h1.get? a = some o → h2.get? a = some o) → φ h2
/-- the abstract heap is held -/
def HOk (H : Hp) (h : Heap) : Prop := ∀ a o, H a = some o → ObjOk P w H h a o
end

section
variable {P : Program} {w : World} {H H' : Hp} {h h' : Heap} {a : Addr} {o : HO}
theorem ObjOk.lt (x : ObjOk P w H h a o) : a < h.objs.size := by
  cases o with
  | lst xs => obtain ⟨_, _, _, _, e⟩ := x; exact Heap.lt_size e
  | tup xs => obtain ⟨_, _, _, p⟩ := x; exact p.lt
  | dK kvs => obtain ⟨_, _, _, _, o, _, _, e, _⟩ := x; exact Heap.lt_size e
  | dT kvs => obtain ⟨_, _, _, _, o, _, _, e, _⟩ := x; exact Heap.lt_size e
  | set S n => obtain ⟨o, _, _, _, e, _⟩ := x; exact Heap.lt_size e
  | ins C dx fs => obtain ⟨_, _, _, e, _⟩ := x; exact Heap.lt_size e
  | own y => obtain ⟨_, e⟩ := x; exact Heap.lt_size e
  | xd fs => obtain ⟨_, ⟨_, _, _, e, _⟩, _⟩ := x; exact Heap.lt_size e
  | rng lo hi => obtain ⟨_, _, _, e⟩ := x; exact Heap.lt_size e
  | frz ob u => obtain ⟨e, _⟩ := x; exact Heap.lt_size e
  | tbl ps => exact Heap.lt_size (show h.get? a = some _ from x)
  | met f y => exact Heap.lt_size (show h.get? a = some _ from x)
  | ext φ => obtain ⟨_, ⟨_, e⟩, _⟩ := x; exact Heap.lt_size e
theorem Paired.mapP {α β : Type} {F G : α → β → Prop} : ∀ {l₁ : List α} {l₂ : List β}, Paired F l₁ l₂ → (∀ a b, F a b → G a b) → Paired G l₁ l₂
  | _, _, .nil, _ => .nil
  | _, _, .cons r t, f => .cons (f _ _ r) (Paired.mapP t f)
/-- what an object's description leans on: its own object, its own dict, the tuples -/
theorem ObjOk.stay (x : ObjOk P w H h a o) (k : ∀ b u, (b = a ∨ H b = some (.own a)) → h.get? b = some u → h'.get? b = some u)
    (ho : ∀ b, H b = some (.own a) → H' b = some (.own a)) (ht : ∀ b xs, H b = some (.tup xs) → H' b = some (.tup xs)) : ObjOk P w H' h' a o := by
  induction o with
  | lst xs => obtain ⟨z, its, n, r, e⟩ := x; exact ⟨z, its, n, r, k _ _ (.inl rfl) e⟩
  | tup xs => obtain ⟨z, its, r, ob, e, c⟩ := x; exact ⟨z, its, r, ob, k _ _ (.inl rfl) e, c⟩
  | dK kvs => obtain ⟨z, y, vs, r, ob, es, ep, e, c⟩ := x; exact ⟨z, y, vs, r, ob, es, ep, k _ _ (.inl rfl) e, c⟩
  | dT kvs =>
    obtain ⟨z, y, xs, r, ob, es, ep, e, c⟩ := x
    exact ⟨z, y, xs, Paired.mapP r fun p q z => ⟨z.1, ht _ _ z.2.1, z.2.2⟩, ob, es, ep, k _ _ (.inl rfl) e, c⟩
  | set S n => obtain ⟨ob, es, ep, t, e, c⟩ := x; exact ⟨ob, es, ep, t, k _ _ (.inl rfl) e, c⟩
  | ins C dx fs =>
    obtain ⟨d, z, ne, e, mA, ⟨od, es, ep, e2, c⟩, r⟩ := x
    exact ⟨ho _ d, z, ne, k _ _ (.inl rfl) e, mA, ⟨od, es, ep, k _ _ (.inr d) e2, c⟩, r⟩
  | own y => obtain ⟨ob, e⟩ := x; exact ⟨ob, k _ _ (.inl rfl) e⟩
  | xd fs => obtain ⟨mA, ⟨od, es, ep, e, c⟩, r⟩ := x; exact ⟨mA, ⟨od, es, ep, k _ _ (.inl rfl) e, c⟩, r⟩
  | rng lo hi => obtain ⟨t, u, v, e⟩ := x; exact ⟨t, u, v, k _ _ (.inl rfl) e⟩
  | frz ob u ih => obtain ⟨e, q⟩ := x; exact ⟨k _ _ (.inl rfl) e, ih q⟩
  | tbl ps =>
    have e : h.get? a = some { cls := .none, data := .fields ps } := x
    show h'.get? a = some { cls := .none, data := .fields ps }
    exact k a _ (.inl rfl) e
  | met f y =>
    have e : h.get? a = some (PySem.W.methodObj (.ref f) (.ref y)) := x
    show h'.get? a = some (PySem.W.methodObj (.ref f) (.ref y))
    exact k a _ (.inl rfl) e
  | ext φ => obtain ⟨p, ⟨o, e⟩, st⟩ := x; exact ⟨st _ _ p fun o q => k _ _ (.inl rfl) q, ⟨o, k _ _ (.inl rfl) e⟩, st⟩
theorem HOk.lt (x : HOk P w H h) (e : H a = some o) : a < h.objs.size := (x a o e).lt
theorem HOk.fresh (x : HOk P w H h) (e : h.objs.size ≤ a) : H a = none := by
  cases q : H a with
  | none => rfl
  | some u => exact absurd (Nat.lt_of_lt_of_le (x.lt q) e) (Nat.lt_irrefl _)
/-- every object of the heap is kept -/
theorem HOk.kept (x : HOk P w H h) (k : ∀ b u, h.get? b = some u → h'.get? b = some u) : HOk P w H h' := fun a o e =>
  (x a o e).stay (fun b u _ q => k b u q) (fun _ q => q) fun _ _ q => q
/-- a new object is laid and tracked -/
theorem HOk.laid (x : HOk P w H h) (k : ∀ b u, h.get? b = some u → h'.get? b = some u) (hp : h.objs.size ≤ a) (new : ObjOk P w (upd H a o) h' a o) : HOk P w (upd H a o) h' := fun b u e => by
  have hn := x.fresh hp
  by_cases hb : b = a
  · subst hb; rw [upd_same] at e; cases e; exact new
  · rw [upd_ne hb] at e
    exact (x b u e).stay (fun c v _ q => k c v q) (fun c q => by rw [upd_ne (ne_of_none q hn)]; exact q) fun c xs q => by rw [upd_ne (ne_of_none q hn)]; exact q
end

/-- what may be read as u: it is u, or a known u -/
def Rd (H : Hp) (a : Addr) (u : HO) : Prop := H a = some u ∨ ∃ o, H a = some (.frz o u)
theorem Rd.ok {P : Program} {w : World} {H : Hp} {h : Heap} {a : Addr} {u : HO} (r : Rd H a u) (x : HOk P w H h) : ObjOk P w H h a u := by
  rcases r with r | ⟨o, r⟩
  · exact x a u r
  · obtain ⟨_, q⟩ := x a _ r
    exact q
/-- what may be written -/
def Mut : Option HO → Prop
  | some (.lst _) => True
  | some (.dK _) => True
  | some (.dT _) => True
  | some (.set _ _) => True
  | some (.ins _ _ _) => True
  | some (.ext _) => True
  | _ => False
section
variable {P : Program} {w : World} {H : Hp} {h h' : Heap} {x e : Addr} {o' : HO}
/-- the object at e is changed: x itself, or the dict of the instance x -/
theorem HOk.write (ok : HOk P w H h) (mu : Mut (H x)) (he : e = x ∨ H e = some (.own x)) (k : ∀ b u, b ≠ e → h.get? b = some u → h'.get? b = some u) (heo : ∃ u, h'.get? e = some u)
    (new : ObjOk P w (upd H x o') h' x o') : HOk P w (upd H x o') h' := fun b u q => by
  have nown : ∀ c y, H c = some (.own y) → c ≠ x := fun c y r z => by subst z; rw [r] at mu; exact mu
  have ntup : ∀ c xs, H c = some (.tup xs) → c ≠ x := fun c xs r z => by subst z; rw [r] at mu; exact mu
  by_cases hb : b = x
  · subst hb; rw [upd_same] at q; cases q; exact new
  · rw [upd_ne hb] at q
    by_cases hbe : b = e
    · have q' : H b = some (.own x) := by
        rcases he with z | z
        · exact absurd (hbe.trans z) hb
        · rw [hbe]; exact z
      rw [q] at q'; cases q'
      obtain ⟨v, hv⟩ := heo
      exact ⟨v, by rw [hbe]; exact hv⟩
    · refine (ok b u q).stay (fun c v hc r => k c v ?_ r) (fun c r => by rw [upd_ne (nown c b r)]; exact r) fun c xs r => by rw [upd_ne (ntup c xs r)]; exact r
      rcases hc with rfl | hc
      · exact hbe
      · rintro rfl
        rcases he with z | z
        · exact nown c b hc z
        · rw [hc] at z; cases z; exact hb rfl
end

/-! ### kept unless tracked; of the frames at fs (the callers') the slots may change (an exception that passes writes there); of the records at ex (iterators) nothing is said -/
structure Un (fs ex : List Addr) (H H' : Hp) (h h' : Heap) : Prop where
  keep : ∀ b o, h.get? b = some o → H b = none → b ∉ fs → b ∉ ex → h'.get? b = some o
  slot : ∀ b o, h.get? b = some o → H b = none → b ∈ fs → b ∉ ex → ∃ sl, h'.get? b = some { o with slots := sl }
  free : ∀ b o, h.get? b = some o → H b = none → b ∉ ex → H' b = none
  there : ∀ b o, h.get? b = some o → b ∉ ex → ∃ o', h'.get? b = some o'
  tups : ∀ b xs, H b = some (.tup xs) → H' b = some (.tup xs)
  frzs : ∀ b o u, H b = some (.frz o u) → H' b = some (.frz o u)
  tbls : ∀ b ps, H b = some (.tbl ps) → ∃ more, H' b = some (.tbl (ps ++ more))
section
variable {fs fs' ex ex' : List Addr} {H H1 H2 : Hp} {h h1 h2 h' : Heap} {a x e : Addr} {o : HO}
theorem Un.any (u : Un fs ex H H1 h h1) {b : Addr} {ob : Obj} (q : h.get? b = some ob) (n : H b = none) (hx : b ∉ ex) : ∃ sl, h1.get? b = some { ob with slots := sl } := by
  by_cases hb : b ∈ fs
  · exact u.slot b ob q n hb hx
  · exact ⟨ob.slots, u.keep b ob q n hb hx⟩
theorem Un.kept (k : ∀ b u, h.get? b = some u → h'.get? b = some u) : Un fs ex H H h h' :=
  ⟨fun b ob q _ _ _ => k b ob q, fun b ob q _ _ _ => ⟨ob.slots, k b ob q⟩, fun _ _ _ n _ => n, fun b ob q _ => ⟨ob, k b ob q⟩, fun _ _ q => q, fun _ _ _ q => q, fun _ ps q => ⟨#[], by rw [q]; simp⟩⟩
theorem Un.refl : Un fs ex H H h h := Un.kept fun _ _ q => q
theorem Un.laid (k : ∀ b u, h.get? b = some u → h'.get? b = some u) (hp : h.objs.size ≤ a) (hn : H a = none) : Un fs ex H (upd H a o) h h' where
  keep := fun b u q _ _ _ => k b u q
  slot := fun b u q _ _ _ => ⟨u.slots, k b u q⟩
  free := fun b u q n _ => by rw [upd_ne (Nat.ne_of_lt (Nat.lt_of_lt_of_le (Heap.lt_size q) hp))]; exact n
  there := fun b u q _ => ⟨u, k b u q⟩
  tups := fun b xs q => by rw [upd_ne (ne_of_none q hn)]; exact q
  frzs := fun b u xs q => by rw [upd_ne (ne_of_none q hn)]; exact q
  tbls := fun b ps q => ⟨#[], by rw [upd_ne (ne_of_none q hn), q]; simp⟩
theorem Un.write (mu : Mut (H x)) (he : e = x ∨ H e = some (.own x)) (k : ∀ b u, b ≠ e → h.get? b = some u → h'.get? b = some u) (heo : ∃ u, h'.get? e = some u) : Un fs ex H (upd H x o) h h' := by
  have hx : ∀ b, H b = none → b ≠ x := fun b n z => by subst z; rw [n] at mu; exact mu
  have hb : ∀ b, H b = none → b ≠ e := fun b n z => by
    subst z
    rcases he with r | r
    · exact hx b n r
    · rw [n] at r; cases r
  have hm : ∀ b u, H b = some u → ¬ Mut (some u) → b ≠ x := fun b u q nm z => by subst z; rw [q] at mu; exact nm mu
  refine ⟨fun b u q n _ _ => k b u (hb b n) q, fun b u q n _ _ => ⟨u.slots, k b u (hb b n) q⟩, fun b u q n _ => by rw [upd_ne (hx b n)]; exact n, fun b u q _ => ?_,
    fun b xs q => by rw [upd_ne (hm b _ q fun z => z)]; exact q, fun b u xs q => by rw [upd_ne (hm b _ q fun z => z)]; exact q, fun b ps q => ⟨#[], by rw [upd_ne (hm b _ q fun z => z), q]; simp⟩⟩
  by_cases hbe : b = e
  · subst hbe; exact heo
  · exact ⟨u, k b u hbe q⟩
end

/-! ### the heap without what is tracked -/
def trk (h : Heap) (H : Hp) : List Addr := (List.range h.objs.size).filter fun a => (H a).isSome
def hidT (h : Heap) (H : Hp) : Heap := PySem.W.hideAll h (trk h H)
theorem hidT_size (h : Heap) (H : Hp) : (hidT h H).objs.size = h.objs.size := PySem.W.hideAll_size _ _
theorem hidT_get {h : Heap} {H : Hp} {b : Addr} {o : Obj} (e : h.get? b = some o) (n : H b = none) : (hidT h H).get? b = some o :=
  PySem.W.hideAll_get _ e fun hm => by
    have q : (H b).isSome = true := (List.mem_filter.mp hm).2
    rw [n] at q; simp at q
theorem of_hidT {h : Heap} {H : Hp} {b : Addr} {o : Obj} (e : (hidT h H).get? b = some o) : h.get? b = some o ∧ H b = none := by
  have e' : h.get? b = some o := PySem.W.of_hideAll (trk h H) e
  refine ⟨e', ?_⟩
  cases q : H b with
  | none => rfl
  | some x =>
    have hm : b ∈ trk h H := List.mem_filter.mpr ⟨List.mem_range.mpr (Heap.lt_size e'), by simp [q]⟩
    have z : (hidT h H).get? b = none := PySem.W.hideAll_none (trk h H) hm
    rw [z] at e; cases e

/-! ### OpenK's ledger, filled with every new object but one -/
end L2

namespace L2
open PySem PySem.Spec PyProof.Rows

/-- the module's facts, over the base: the heap at the law's entry without what is tracked there -/
structure Mod (K : PySem.W.Frag) (mg : Str → Option Value) (base : Heap) : Prop where
  kin : K.In base
  glob : base.Ns mainGlobals mg
  blt : ∃ mb, base.Ns builtinsNs mb ∧ ∀ x : Str, x ≠ "__name__" → mb x = bootBuiltins x
  nolimit : base.NoLimit

/-- the context: a def's body (or a comprehension's block) running. base: fixed through the whole law; s₀, H₀: the entry; outer: the frames whose slots others may change (a def's callers); stack: all frames that run;
   ex: iterators that were made ahead of the entry and are walked here (a comprehension's); fn: the names whose cells were made at the entry (a def: all; a comprehension's block: its own); calm: not within an except suite; pn: pins that every state bears; xe: what is wanted of an exception that leaves the code -/
structure Cx where
  prog : Program
  w : World
  K : PySem.W.Frag
  mg : Str → Option Value
  base : Heap
  A : Around
  N : List Str
  s_0 : Shared
  H_0 : Hp
  env : Env
  outer : List Env
  stack : List Env
  ex : List Addr
  fn : Str → Bool
  calm : Bool
  pn : List (Addr × Obj)
  xe : Value → Shared → Prop
/-- the callers' frames -/
def frs (l : List Env) : List Addr := l.filterMap (·.frame)
abbrev Cx.fs (X : Cx) : List Addr := frs X.outer

def Vis (sc : Scope) (x : Str) : Prop := sc.names.lookup x = some .local ∨ sc.names.lookup x = some .cell ∨ sc.names.lookup x = some .free
def Loc (sc : Scope) (x : Str) : Prop := sc.names.lookup x = some .local ∨ sc.names.lookup x = some .cell
def Look (env : Env) (h : Heap) (m : Str → Option Value) (x : Str) (u : Value) : Prop :=
  (env.kindOf x = some .local ∧ m x = some u) ∨ ((env.kindOf x = some .cell ∨ env.kindOf x = some .free) ∧ ∃ c, env.cells.lookup x = some c ∧ h.IsCell c (some u))

structure Cx.Ok (X : Cx) : Prop where
  mod : Mod X.K X.mg X.base
  kind : X.env.scope.kind = .function
  glob : X.env.globals = mainGlobals
  blt : X.env.builtins = builtinsNs
  above : X.s_0.heap.objs.size ≤ X.env.locals
  inj : ∀ x y c, X.env.cells.lookup x = some c → X.env.cells.lookup y = some c → x = y
  has : ∀ x, (X.env.kindOf x = some .cell ∨ X.env.kindOf x = some .free) → ∃ c, X.env.cells.lookup x = some c
  cab : ∀ x c, X.fn x = true → X.env.cells.lookup x = some c → X.s_0.heap.objs.size ≤ c
  hd : X.calm = true → X.A.handled = none
  frames : X.A.frames = some X.stack
  stk : X.stack = X.outer ∨ (X.stack = X.env :: X.outer ∧ X.env.frame = some X.env.locals)
  exf : ∀ b ∈ X.ex, b ≠ X.env.locals ∧ ∀ x c, X.env.cells.lookup x = some c → c ≠ b
  bs : ∀ b o, X.base.get? b = some o → X.s_0.heap.get? b = some o ∧ X.H_0 b = none
  bsz : X.base.objs.size ≤ X.s_0.heap.objs.size
  noex : ∀ b o, X.base.get? b = some o → b ∉ X.ex
  exfs : ∀ b ∈ X.ex, b ∉ X.fs
  funs : X.s_0.heap.FunFrames X.base X.outer
  frf : ∀ b ∈ X.fs, X.H_0 b = none

structure Inv (X : Cx) (pins : List (Addr × Obj)) (σ : List (Option V)) (H : Hp) (s : Shared) : Prop where
  ok : X.Ok
  os : s.os = X.s_0.os
  bare : AllBare s.gens
  base : Un X.fs X.ex X.H_0 H X.s_0.heap s.heap
  loc : ∃ m, s.heap.Ns X.env.locals m ∧ ∀ (i : Nat) (x : Str) (v : V), X.N[i]? = some x → σ[i]? = some (some v) → Vis X.env.scope x → ∃ u, RelV v u ∧ Look X.env s.heap m x u
  cell : ∀ x c, X.env.cells.lookup x = some c → ∃ v, s.heap.IsCell c v
  free : H X.env.locals = none
  freeC : ∀ x c, X.env.cells.lookup x = some c → H c = none
  pin : ∀ p ∈ X.pn ++ pins, s.heap.get? p.1 = some p.2 ∧ H p.1 = none ∧ p.1 ≠ X.env.locals ∧ p.1 ∉ X.fs ∧ ∀ v, p.2.data ≠ .cell v
  hok : HOk X.prog X.w H s.heap
  len : σ.length = X.N.length

section
variable {X : Cx} {pins : List (Addr × Obj)} {σ : List (Option V)} {H H' : Hp} {s : Shared} {h' : Heap}

theorem Cx.Ok.nofr (ok : X.Ok) {b : Addr} {o : Obj} (e : X.base.get? b = some o) : b ∉ X.fs := fun hb => by
  have := (ok.funs.mem hb).1
  rw [e] at this; cases this
theorem Inv.bs (I : Inv X pins σ H s) : ∀ b o, X.base.get? b = some o → s.heap.get? b = some o ∧ H b = none := fun b o e =>
  ⟨I.base.keep b o (I.ok.bs b o e).1 (I.ok.bs b o e).2 (I.ok.nofr e) (I.ok.noex b o e), I.base.free b o (I.ok.bs b o e).1 (I.ok.bs b o e).2 (I.ok.noex b o e)⟩
theorem Inv.bk (I : Inv X pins σ H s) : ∀ b o, X.base.get? b = some o → s.heap.get? b = some o := fun b o e => (I.bs b o e).1
theorem Inv.mod (I : Inv X pins σ H s) : Mod X.K X.mg X.base := I.ok.mod
theorem Inv.kIn (I : Inv X pins σ H s) : X.K.In s.heap := I.ok.mod.kin.keeps I.bk
theorem Inv.lt (I : Inv X pins σ H s) : X.env.locals < s.heap.objs.size := let ⟨_, hn, _⟩ := I.loc; hn.lt
theorem Inv.sz (I : Inv X pins σ H s) : X.s_0.heap.objs.size ≤ s.heap.objs.size := Nat.le_trans I.ok.above (Nat.le_of_lt I.lt)
theorem Inv.nofs (I : Inv X pins σ H s) {a : Addr} (h : s.heap.objs.size ≤ a) : a ∉ X.fs := fun hb => by
  obtain ⟨_, o, ho, _⟩ := I.ok.funs.mem hb
  exact absurd (Nat.lt_of_lt_of_le (Heap.lt_size ho) (Nat.le_trans I.sz h)) (Nat.lt_irrefl _)
theorem Inv.cne (I : Inv X pins σ H s) : ∀ x c, X.env.cells.lookup x = some c → c ≠ X.env.locals := fun x c e z => by
  obtain ⟨v, o, ho, hd⟩ := I.cell x c e
  obtain ⟨m, ⟨o', es, ep, ho', hd', _⟩, _⟩ := I.loc
  rw [z, ho'] at ho; cases ho; rw [hd'] at hd; cases hd
theorem Inv.funs (I : Inv X pins σ H s) : s.heap.FunFrames X.base X.outer := by
  have all : ∀ (l : List Env), (∀ b ∈ frs l, b ∈ X.fs) → X.s_0.heap.FunFrames X.base l → s.heap.FunFrames X.base l := by
    intro l
    induction l with
    | nil => intro _ _; trivial
    | cons env r ih =>
      intro hs hl
      obtain ⟨hk, ⟨L, o, hf, hn, ho, hd⟩, hr⟩ := hl
      have hL : L ∈ X.fs := hs L (by unfold frs; rw [List.filterMap_cons, hf]; exact List.mem_cons_self)
      obtain ⟨sl, e⟩ := I.base.slot L o ho (I.ok.frf L hL) hL fun z => I.ok.exfs L z hL
      exact ⟨hk, ⟨L, _, hf, hn, e, hd⟩, ih (fun b hb => hs b (by unfold frs; rw [List.filterMap_cons, hf]; exact List.mem_cons_of_mem _ hb)) hr⟩
  exact all X.outer (fun _ hb => hb) I.ok.funs

/-- the frames that run, for a call -/
theorem Inv.stack (I : Inv X pins σ H s) : s.heap.FunFrames X.base X.stack := by
  rcases I.ok.stk with e | ⟨e, hf⟩
  · rw [e]; exact I.funs
  · rw [e]
    obtain ⟨m, hn, _⟩ := I.loc
    refine .cons (by rw [I.ok.kind]; decide) hf hn ?_ I.funs
    exact Heap.get?_none_of_le (Nat.le_trans I.ok.bsz I.ok.above)
theorem Inv.stkSub (I : Inv X pins σ H s) : ∀ b ∈ frs X.stack, b ∈ X.env.locals :: X.fs := fun b hb => by
  rcases I.ok.stk with e | ⟨e, hf⟩
  · rw [e] at hb; exact List.mem_cons_of_mem _ hb
  · rw [e] at hb
    unfold frs at hb
    rw [List.filterMap_cons, hf] at hb
    exact hb
theorem Inv.stkFree (I : Inv X pins σ H s) : ∀ b ∈ frs X.stack, H b = none := fun b hb => by
  rcases List.mem_cons.mp (I.stkSub b hb) with e | hb
  · rw [e]; exact I.free
  · obtain ⟨_, o, ho, _⟩ := I.ok.funs.mem hb
    exact I.base.free b o ho (I.ok.frf b hb) fun z => I.ok.exfs b z hb

/-- THE STEP: the untracked objects but the frame and the records at ch are kept (the callers' frames up to slots), the frame's map is kept, the new abstract heap is held -/
theorem Inv.step {g' : Array GenState} {t' : Nat} {d' : Drawn} {ch : List Addr} (I : Inv X pins σ H s)
    (hch : ∀ b ∈ ch, (b ∈ X.ex ∨ X.s_0.heap.objs.size ≤ b) ∧ b ≠ X.env.locals ∧ (∀ x c, X.env.cells.lookup x = some c → c ≠ b) ∧ ∀ p ∈ X.pn ++ pins, p.1 ≠ b)
    (keep : ∀ b o, b ≠ X.env.locals → b ∉ X.fs → b ∉ ch → s.heap.get? b = some o → H b = none → h'.get? b = some o)
    (slot : ∀ b o, b ≠ X.env.locals → b ∈ X.fs → b ∉ ch → s.heap.get? b = some o → H b = none → ∃ sl, h'.get? b = some { o with slots := sl }) (free : ∀ b o, b ∉ ch → s.heap.get? b = some o → H b = none → H' b = none)
    (there : ∀ b o, b ∉ ch → s.heap.get? b = some o → ∃ o', h'.get? b = some o')
    (tups : ∀ b xs, H b = some (.tup xs) → H' b = some (.tup xs)) (frzs : ∀ b o u, H b = some (.frz o u) → H' b = some (.frz o u)) (tbls : ∀ b ps, H b = some (.tbl ps) → ∃ more, H' b = some (.tbl (ps ++ more)))
    (ns : ∀ m, s.heap.Ns X.env.locals m → h'.Ns X.env.locals m) (hok : HOk X.prog X.w H' h') (hg : AllBare g') :
    Inv X pins σ H' { s with heap := h', gens := g', drawn := d', toks := t' } := by
  have neL : ∀ b o, X.s_0.heap.get? b = some o → b ≠ X.env.locals := fun b o e => Nat.ne_of_lt (Nat.lt_of_lt_of_le (Heap.lt_size e) I.ok.above)
  have neC : ∀ b o, X.s_0.heap.get? b = some o → b ∉ X.ex → b ∉ ch := fun b o e hx hb => by
    rcases (hch b hb).1 with z | z
    · exact hx z
    · exact absurd (Nat.lt_of_lt_of_le (Heap.lt_size e) z) (Nat.lt_irrefl _)
  have cellK : ∀ x c, X.env.cells.lookup x = some c → ∀ v, s.heap.IsCell c v → h'.IsCell c v := fun x c e v ⟨o, ho, hd⟩ => by
    have nch : c ∉ ch := fun z => (hch c z).2.2.1 x c e rfl
    by_cases hc : c ∈ X.fs
    · obtain ⟨sl, q⟩ := slot c o (I.cne x c e) hc nch ho (I.freeC x c e)
      exact ⟨_, q, hd⟩
    · exact ⟨o, keep c o (I.cne x c e) hc nch ho (I.freeC x c e), hd⟩
  refine ⟨I.ok, I.os, hg, ⟨fun b o e n hb hx => ?_, fun b o e n hb hx => ?_, fun b o e n hx => ?_, fun b o e hx => ?_, fun b xs e => tups b xs (I.base.tups b xs e), fun b o xs e => frzs b o xs (I.base.frzs b o xs e), fun b ps e => ?_⟩, ?_, fun x c e => ?_, ?_, fun x c e => ?_, fun p hp => ?_, hok, I.len⟩
  · exact keep b o (neL b o e) hb (neC b o e hx) (I.base.keep b o e n hb hx) (I.base.free b o e n hx)
  · obtain ⟨sl, e1⟩ := I.base.slot b o e n hb hx
    obtain ⟨sl', e2⟩ := slot b _ (neL b o e) hb (neC b o e hx) e1 (I.base.free b o e n hx)
    exact ⟨sl', e2⟩
  · obtain ⟨o', e1⟩ := I.base.there b o e hx
    exact free b o' (neC b o e hx) e1 (I.base.free b o e n hx)
  · obtain ⟨o', e1⟩ := I.base.there b o e hx
    exact there b o' (neC b o e hx) e1
  · obtain ⟨m1, e1⟩ := I.base.tbls b ps e
    obtain ⟨m2, e2⟩ := tbls b _ e1
    exact ⟨m1 ++ m2, by rw [e2, Array.append_assoc]⟩
  · obtain ⟨m, hn, hl⟩ := I.loc
    refine ⟨m, ns m hn, fun i x v e1 e2 e3 => ?_⟩
    obtain ⟨u, r, l⟩ := hl i x v e1 e2 e3
    refine ⟨u, r, ?_⟩
    rcases l with l | ⟨k, c, e, z⟩
    · exact .inl l
    · exact .inr ⟨k, c, e, cellK x c e _ z⟩
  · obtain ⟨v, z⟩ := I.cell x c e
    exact ⟨v, cellK x c e v z⟩
  · obtain ⟨m, ⟨o, _, _, ho, _⟩, _⟩ := I.loc
    exact free _ o (fun z => (hch _ z).2.1 rfl) ho I.free
  · obtain ⟨v, o, ho, hd⟩ := I.cell x c e
    exact free c o (fun z => (hch c z).2.2.1 x c e rfl) ho (I.freeC x c e)
  · obtain ⟨e, n, ne, nf, d⟩ := I.pin p hp
    have nch : p.1 ∉ ch := fun z => (hch p.1 z).2.2.2 p hp rfl
    exact ⟨keep p.1 p.2 ne nf nch e n, free p.1 p.2 nch e n, ne, nf, d⟩
/-- .. where the frame's own object is kept too -/
theorem Inv.un {t' : Nat} (I : Inv X pins σ H s) (u : Un X.fs [] H H' s.heap h') (hok : HOk X.prog X.w H' h') : Inv X pins σ H' { s with heap := h', toks := t' } := by
  obtain ⟨m, ⟨o, es, ep, ho, r⟩, _⟩ := id I.loc
  obtain ⟨sl, hL⟩ := u.any ho I.free (by simp)
  exact I.step (g' := s.gens) (d' := s.drawn) (ch := []) (fun _ z => nomatch z) (fun b o _ hb _ e n => u.keep b o e n hb (by simp)) (fun b o _ hb _ e n => u.slot b o e n hb (by simp)) (fun b o _ e n => u.free b o e n (by simp)) (fun b o _ e => u.there b o e (by simp)) u.tups u.frzs u.tbls (fun m' hm => by
    obtain ⟨o', es', ep', ho', r'⟩ := hm
    rw [ho] at ho'; cases ho'
    exact ⟨_, es', ep', hL, r'⟩) hok I.bare
/-- behind a call (or a comprehension's block): the slots of this frame may have changed too, the records at ch may have turned -/
theorem Inv.call {g' : Array GenState} {t' : Nat} {d' : Drawn} {ch : List Addr} (I : Inv X pins σ H s) (u : Un (frs X.stack) ch H H' s.heap h') (hok : HOk X.prog X.w H' h') (hg : AllBare g')
    (hch : ∀ b ∈ ch, (b ∈ X.ex ∨ X.s_0.heap.objs.size ≤ b) ∧ b ≠ X.env.locals ∧ (∀ x c, X.env.cells.lookup x = some c → c ≠ b) ∧ ∀ p ∈ X.pn ++ pins, p.1 ≠ b) :
    Inv X pins σ H' { s with heap := h', gens := g', drawn := d', toks := t' } := by
  obtain ⟨m, ⟨o, es, ep, ho, r⟩, _⟩ := id I.loc
  obtain ⟨sl, hL⟩ := u.any ho I.free fun z => (hch _ z).2.1 rfl
  exact I.step (ch := ch) hch (fun b o hL hb hc e n => u.keep b o e n (fun z => (List.mem_cons.mp (I.stkSub b z)).elim hL hb) hc) (fun b o _ _ hc e n => u.any e n hc) (fun b o hc e n => u.free b o e n hc) (fun b o hc e => u.there b o e hc) u.tups u.frzs u.tbls (fun m' hm => by
    obtain ⟨o', es', ep', ho', r'⟩ := hm
    rw [ho] at ho'; cases ho'
    exact ⟨_, es', ep', hL, r'⟩) hok hg
/-- an untracked record of ours (an iterator) has turned -/
theorem Inv.turned {t' : Nat} {it : Addr} (I : Inv X pins σ H s) (k : ∀ b o, b ≠ it → s.heap.get? b = some o → h'.get? b = some o) (hn : H it = none) (hL : it ≠ X.env.locals)
    (h1 : it ∈ X.ex ∨ X.s_0.heap.objs.size ≤ it) (h2 : ∀ x c, X.env.cells.lookup x = some c → c ≠ it) (h3 : ∀ p ∈ X.pn ++ pins, p.1 ≠ it) : Inv X pins σ H { s with heap := h', toks := t' } := by
  have nit : ∀ b u, H b = some u → b ≠ it := fun b u e z => by rw [z, hn] at e; cases e
  refine I.step (g' := s.gens) (d' := s.drawn) (ch := [it]) (fun b hb => ?_) (fun b o _ _ hc e _ => k b o (fun z => hc (by simp [z])) e) (fun b o _ _ hc e _ => ⟨o.slots, k b o (fun z => hc (by simp [z])) e⟩) (fun _ _ _ _ n => n)
    (fun b o hc e => ⟨o, k b o (fun z => hc (by simp [z])) e⟩) (fun _ _ e => e) (fun _ _ _ e => e) (fun b ps e => ⟨#[], by rw [e]; simp⟩) (fun m hm => ?_) (fun b u e => ?_) I.bare
  · have e : b = it := by simpa using hb
    subst e
    exact ⟨h1, hL, h2, h3⟩
  · obtain ⟨o, es, ep, ho, r⟩ := hm
    exact ⟨o, es, ep, k _ o (Ne.symm hL) ho, r⟩
  · refine (I.hok b u e).stay (fun c v hc q => k c v ?_ q) (fun _ q => q) fun _ _ q => q
    rcases hc with z | z
    · rw [z]; exact nit b u e
    · exact nit c _ z
theorem Inv.tok (I : Inv X pins σ H s) (t : Nat) : Inv X pins σ H { s with toks := t } := I.un (h' := s.heap) (t' := t) Un.refl I.hok
/-- all objects kept -/
theorem Inv.kept {t' : Nat} (I : Inv X pins σ H s) (k : ∀ b u, s.heap.get? b = some u → h'.get? b = some u) : Inv X pins σ H { s with heap := h', toks := t' } := I.un (Un.kept k) (I.hok.kept k)
/-- a new object laid and tracked -/
theorem Inv.laid {a : Addr} {o : HO} {t' : Nat} (I : Inv X pins σ H s) (k : ∀ b u, s.heap.get? b = some u → h'.get? b = some u) (hp : s.heap.objs.size ≤ a) (new : ObjOk X.prog X.w (upd H a o) h' a o) :
    Inv X pins σ (upd H a o) { s with heap := h', toks := t' } := I.un (Un.laid k hp (I.hok.fresh hp)) (I.hok.laid k hp new)
/-- an object written -/
theorem Inv.write {x e : Addr} {o : HO} {t' : Nat} (I : Inv X pins σ H s) (mu : Mut (H x)) (he : e = x ∨ H e = some (.own x)) (k : ∀ b u, b ≠ e → s.heap.get? b = some u → h'.get? b = some u) (heo : ∃ u, h'.get? e = some u)
    (new : ObjOk X.prog X.w (upd H x o) h' x o) : Inv X pins σ (upd H x o) { s with heap := h', toks := t' } := I.un (Un.write mu he k heo) (I.hok.write mu he k heo new)
/-- forgetting slots, pins -/
theorem Inv.weak {σ' : List (Option V)} (I : Inv X pins σ H s) (hl : σ'.length = σ.length) (w : ∀ (i : Nat) v, σ'[i]? = some (some v) → σ[i]? = some (some v)) : Inv X pins σ' H s :=
  ⟨I.ok, I.os, I.bare, I.base, let ⟨m, hn, hl'⟩ := I.loc; ⟨m, hn, fun i x v e1 e2 e3 => hl' i x v e1 (w i v e2) e3⟩, I.cell, I.free, I.freeC, I.pin, I.hok, hl.trans I.len⟩
theorem Inv.pins_of {pins' : List (Addr × Obj)} (I : Inv X pins σ H s) (h : ∀ p ∈ pins', s.heap.get? p.1 = some p.2 ∧ H p.1 = none ∧ p.1 ≠ X.env.locals ∧ p.1 ∉ X.fs ∧ ∀ v, p.2.data ≠ .cell v) : Inv X pins' σ H s :=
  ⟨I.ok, I.os, I.bare, I.base, I.loc, I.cell, I.free, I.freeC, fun p hp => (List.mem_append.mp hp).elim (fun z => I.pin p (List.mem_append_left _ z)) (h p), I.hok, I.len⟩

theorem nodup_ix {N : List Str} (hN : N.Nodup) {i j : Nat} {x : Str} (a : N[i]? = some x) (b : N[j]? = some x) : i = j := by
  obtain ⟨h1, e1⟩ := List.getElem?_eq_some_iff.mp a
  obtain ⟨h2, e2⟩ := List.getElem?_eq_some_iff.mp b
  exact (List.getElem_inj hN).mp (e1.trans e2.symm)

/-- a name is stored; what changed -/
theorem store_ok2 {M : Model} {A : Around} {E : Value → Shared → Prop} {i : Nat} {x : Str} {v : V} {u : Value} {Q : Unit → Shared → Prop} (I : Inv X pins σ H s) (hN : X.N.Nodup) (hi : X.N[i]? = some x) (hx : Loc X.env.scope x) (r : RelV v u)
    (h : ∀ s', Inv X pins (σ.set i (some v)) H s' → (∃ a, Heap.SameBut a s.heap s'.heap ∧ (a = X.env.locals ∨ X.env.cells.lookup x = some a)) → Q () s') (hf : X.fn x = true ∨ X.env.scope.names.lookup x = some .local := by first | exact .inl rfl | exact .inr rfl | assumption) : wpAny M A (storeName X.env x u) Q E s := by
  obtain ⟨m, hn, hl⟩ := id I.loc
  have hcls : (X.env.scope.kind == .class || (X.env.scope.kind == .module && X.env.locals != X.env.globals)) = false := by rw [I.ok.kind]; rfl
  have hiσ : i < σ.length := by rw [I.len]; exact (List.getElem?_eq_some_iff.mp hi).1
  have cne := I.cne
  have tracked : ∀ {a : Addr} {h' : Heap}, (∃ o, s.heap.get? a = some o ∧ H a = none) → Heap.SameBut a s.heap h' → HOk X.prog X.w H h' := fun {a h'} ha hs b ob e => by
    obtain ⟨_, _, hfree⟩ := ha
    refine (I.hok b ob e).stay (fun c w' hc q => (hs.2 c ?_).trans q) (fun _ q => q) fun _ _ q => q
    rintro rfl
    rcases hc with rfl | hc
    · rw [hfree] at e; cases e
    · rw [hfree] at hc; cases hc
  rcases hx with hk | hk
  · refine wpAny_storeName_local hk hn (fun h' hn' hs => ?_) hcls
    obtain ⟨oL, _, _, hoL, _⟩ := id hn
    refine h _ ⟨I.ok, I.os, I.bare, ⟨fun b o e n hb hx => ?_, fun b o e n hb hx => ?_, I.base.free, fun b o e hx => ?_, I.base.tups, I.base.frzs, I.base.tbls⟩, ⟨_, hn', fun j y v' e1 e2 e3 => ?_⟩, fun y c e => ?_, I.free, I.freeC, fun p hp => ?_, tracked ⟨oL, hoL, I.free⟩ hs, by simpa using I.len⟩ ⟨_, hs, .inl rfl⟩
    · exact (hs.2 b (Nat.ne_of_lt (Nat.lt_of_lt_of_le (Heap.lt_size e) I.ok.above))).trans (I.base.keep b o e n hb hx)
    · obtain ⟨sl, e1⟩ := I.base.slot b o e n hb hx
      exact ⟨sl, (hs.2 b (Nat.ne_of_lt (Nat.lt_of_lt_of_le (Heap.lt_size e) I.ok.above))).trans e1⟩
    · obtain ⟨o', e1⟩ := I.base.there b o e hx
      exact ⟨o', (hs.2 b (Nat.ne_of_lt (Nat.lt_of_lt_of_le (Heap.lt_size e) I.ok.above))).trans e1⟩
    · by_cases hj : j = i
      · subst hj
        rw [hi] at e1; cases e1
        rw [List.getElem?_set_self hiσ] at e2
        cases e2
        exact ⟨u, r, .inl ⟨hk, by simp⟩⟩
      · rw [List.getElem?_set_ne (Ne.symm hj)] at e2
        obtain ⟨u', r', q⟩ := hl j y v' e1 e2 e3
        refine ⟨u', r', ?_⟩
        rcases q with ⟨k, e⟩ | ⟨k, c, e, z⟩
        · refine .inl ⟨k, ?_⟩
          have : y ≠ x := fun e => hj (nodup_ix hN e1 (e ▸ hi))
          simp [this, e]
        · exact .inr ⟨k, c, e, z.sameBut hs (cne y c e)⟩
    · obtain ⟨w', z⟩ := I.cell y c e
      exact ⟨w', z.sameBut hs (cne y c e)⟩
    · obtain ⟨e, n, ne, nf, d⟩ := I.pin p hp
      exact ⟨(hs.2 p.1 ne).trans e, n, ne, nf, d⟩
  · have hfn : X.fn x = true := by
      rcases hf with z | z
      · exact z
      · rw [z] at hk; cases hk
    obtain ⟨c, hc⟩ := I.ok.has x (.inl hk)
    obtain ⟨w', z⟩ := I.cell x c hc
    refine wpAny_storeName_cell I.ok.kind hk hc z (fun h' hc' hs => ?_)
    obtain ⟨oc, hoc, hocd⟩ := id z
    refine h { s with heap := h' } ⟨I.ok, I.os, I.bare, ⟨fun b o e n hb hx => ?_, fun b o e n hb hx => ?_, I.base.free, fun b o e hx => ?_, I.base.tups, I.base.frzs, I.base.tbls⟩, ⟨m, hn.sameBut hs (Ne.symm (cne x c hc)), fun j y v' e1 e2 e3 => ?_⟩, fun y c' e => ?_, I.free, I.freeC, fun p hp => ?_, tracked ⟨oc, hoc, I.freeC x c hc⟩ hs, by simpa using I.len⟩ ⟨c, hs, .inr hc⟩
    · exact (hs.2 b (Nat.ne_of_lt (Nat.lt_of_lt_of_le (Heap.lt_size e) (I.ok.cab x c hfn hc)))).trans (I.base.keep b o e n hb hx)
    · obtain ⟨sl, e1⟩ := I.base.slot b o e n hb hx
      exact ⟨sl, (hs.2 b (Nat.ne_of_lt (Nat.lt_of_lt_of_le (Heap.lt_size e) (I.ok.cab x c hfn hc)))).trans e1⟩
    · obtain ⟨o', e1⟩ := I.base.there b o e hx
      exact ⟨o', (hs.2 b (Nat.ne_of_lt (Nat.lt_of_lt_of_le (Heap.lt_size e) (I.ok.cab x c hfn hc)))).trans e1⟩
    · by_cases hj : j = i
      · subst hj
        rw [hi] at e1; cases e1
        rw [List.getElem?_set_self hiσ] at e2
        cases e2
        exact ⟨u, r, .inr ⟨.inl hk, c, hc, hc'⟩⟩
      · rw [List.getElem?_set_ne (Ne.symm hj)] at e2
        obtain ⟨u', r', q⟩ := hl j y v' e1 e2 e3
        refine ⟨u', r', ?_⟩
        rcases q with q | ⟨k, c', e, z'⟩
        · exact .inl q
        · refine .inr ⟨k, c', e, z'.sameBut hs ?_⟩
          rintro rfl
          exact hj (nodup_ix hN e1 (I.ok.inj _ _ _ e hc ▸ hi))
    · by_cases hcc : c' = c
      · subst hcc; exact ⟨_, hc'⟩
      · obtain ⟨w2, z2⟩ := I.cell y c' e
        exact ⟨w2, z2.sameBut hs hcc⟩
    · obtain ⟨e, n, ne, nf, d⟩ := I.pin p hp
      refine ⟨(hs.2 p.1 ?_).trans e, n, ne, nf, d⟩
      intro q
      rw [q, hoc] at e
      have q' : oc = p.2 := Option.some.inj e
      exact d w' (by rw [← q']; exact hocd)
theorem store_ok {M : Model} {A : Around} {E : Value → Shared → Prop} {i : Nat} {x : Str} {v : V} {u : Value} {Q : Unit → Shared → Prop} (I : Inv X pins σ H s) (hN : X.N.Nodup) (hi : X.N[i]? = some x) (hx : Loc X.env.scope x) (r : RelV v u)
    (h : ∀ s', Inv X pins (σ.set i (some v)) H s' → Q () s') (hf : X.fn x = true ∨ X.env.scope.names.lookup x = some .local := by first | exact .inl rfl | exact .inr rfl | assumption) : wpAny M A (storeName X.env x u) Q E s :=
  store_ok2 I hN hi hx r (fun s' I' _ => h s' I') hf
/-- behind a call or a block, the state as it is -/
theorem Inv.call' {s' : Shared} {ch : List Addr} (I : Inv X pins σ H s) (ho : s'.os = s.os) (u : Un (frs X.stack) ch H H' s.heap s'.heap) (hok : HOk X.prog X.w H' s'.heap) (hg : AllBare s'.gens)
    (hch : ∀ b ∈ ch, (b ∈ X.ex ∨ X.s_0.heap.objs.size ≤ b) ∧ b ≠ X.env.locals ∧ (∀ x c, X.env.cells.lookup x = some c → c ≠ b) ∧ ∀ p ∈ X.pn ++ pins, p.1 ≠ b) : Inv X pins σ H' s' := by
  obtain ⟨h', g', d', t', o'⟩ := s'
  have e : o' = s.os := ho
  subst e
  exact I.call (g' := g') (t' := t') (d' := d') u hok hg hch
end

/-! ### the judgements -/
/-- an exception: its class, its own dict's address (where it has one), the abstract heap behind it -/
abbrev XK := Value → Option Addr → Hp → Prop
abbrev St := List (Option V)
abbrev VK := V → Hp → Prop
/-- an expression's reading; a test's; an argument list's -/
abbrev TE := St → Hp → VK → Prop
abbrev TT := St → Hp → (Bool → Hp → Prop) → Prop
abbrev TA := St → Hp → (List V → Hp → Prop) → Prop
/-- what is wanted behind a statement -/
structure Ends where
  nx : St → Hp → Prop
  rt : VK
  bk : St → Hp → Prop := fun _ _ => False
  ct : St → Hp → Prop := fun _ _ => False
abbrev TS := Ends → St → Hp → Prop

def EP (X : Cx) (pins : List (Addr × Obj)) (σ : St) (Q : VK) (u : Value) (s' : Shared) : Prop := ∃ v H', Inv X pins σ H' s' ∧ RelV v u ∧ Q v H'
def TP (X : Cx) (pins : List (Addr × Obj)) (σ : St) (Q : Bool → Hp → Prop) (b : Bool) (s' : Shared) : Prop := ∃ H', Inv X pins σ H' s' ∧ Q b H'
def AP (X : Cx) (pins : List (Addr × Obj)) (σ : St) (Q : List V → Hp → Prop) (us : List Value) (s' : Shared) : Prop := ∃ vs H', Inv X pins σ H' s' ∧ Vals vs us ∧ Q vs H'
def SP (X : Cx) (pins : List (Addr × Obj)) (D : Ends) (f : Flow) (s' : Shared) : Prop :=
  match f with
  | .next => ∃ σ' H', Inv X pins σ' H' s' ∧ D.nx σ' H'
  | .brk => ∃ σ' H', Inv X pins σ' H' s' ∧ D.bk σ' H'
  | .cont => ∃ σ' H', Inv X pins σ' H' s' ∧ D.ct σ' H'
  | .ret u => ∃ v σ' H', Inv X pins σ' H' s' ∧ RelV v u ∧ D.rt v H'

def PE (X : Cx) (e : Expr) (t : TE) : Prop :=
  ∀ (pins : List (Addr × Obj)) (s : Shared) (σ : St) (H : Hp) (Q : VK), Inv X pins σ H s → t σ H Q → wpAny (model X.prog X.w) X.A (eval e X.env) (EP X pins σ Q) X.xe s
def PT (X : Cx) (e : Expr) (t : TT) : Prop :=
  ∀ (pins : List (Addr × Obj)) (s : Shared) (σ : St) (H : Hp) (Q : Bool → Hp → Prop), Inv X pins σ H s → t σ H Q → wpAny (model X.prog X.w) X.A (isTrue e X.env (eval e X.env)) (TP X pins σ Q) X.xe s
/-- a test whatever its 'whole' is (and, or) -/
def PW (X : Cx) (e : Expr) (t : TT) : Prop :=
  ∀ (whole : Sem Value) (pins : List (Addr × Obj)) (s : Shared) (σ : St) (H : Hp) (Q : Bool → Hp → Prop), Inv X pins σ H s → t σ H Q → wpAny (model X.prog X.w) X.A (isTrue e X.env whole) (TP X pins σ Q) X.xe s
theorem PW.pt {X : Cx} {e : Expr} {t : TT} (h : PW X e t) : PT X e t := h _
/-- an argument list (no star), from the left -/
def PA (X : Cx) (es : List Expr) (t : TA) : Prop :=
  ∀ (pos : Pos) (pins : List (Addr × Obj)) (s : Shared) (σ : St) (H : Hp) (Q : List V → Hp → Prop), Inv X pins σ H s → t σ H Q → wpAny (model X.prog X.w) X.A (spliced (backTo pos (starEach es X.env))) (AP X pins σ Q) X.xe s
def PS (X : Cx) (st : Stmt) (t : TS) : Prop :=
  ∀ (pins : List (Addr × Obj)) (s : Shared) (σ : St) (H : Hp) (D : Ends), Inv X pins σ H s → t D σ H → wpAny (model X.prog X.w) X.A (exec st X.env) (SP X pins D) X.xe s
def PSs (X : Cx) (st : List Stmt) (t : TS) : Prop :=
  ∀ (pins : List (Addr × Obj)) (s : Shared) (σ : St) (H : Hp) (D : Ends), Inv X pins σ H s → t D σ H → wpAny (model X.prog X.w) X.A (execs st X.env) (SP X pins D) X.xe s
/-- weaken the end -/
theorem thn {α : Type} {t : Sem α} {Q Q' : α → Shared → Prop} {M : Model} {A : Around} {E : Value → Shared → Prop} {s : Shared} (h : wpAny M A t Q E s) (hQ : ∀ a s, Q a s → Q' a s) : wpAny M A t Q' E s := wpAny_mono h hQ fun _ _ x => x
end L2

namespace L2
open PySem PySem.Spec PyProof.Rows
section
variable {X : Cx}

/-! ### names and constants -/
def tVar (i : Nat) : TE := fun σ H Q => ∃ v, σ[i]? = some (some v) ∧ Q v H
def tC (v : V) : TE := fun _ H Q => Q v H
theorem pe_var {i : Nat} {x : Str} {pos : Pos} (hN : X.N[i]? = some x) (hv : Vis X.env.scope x) (hd : (x == ("__debug__" : Str)) = false := by decide) (hcd : (x == ("__classdict__" : Str)) = false := by decide) : PE X (.Name x pos) (tVar i) := by
  intro pins s σ H Q I h
  obtain ⟨v, e, h⟩ := h
  obtain ⟨m, hn, hl⟩ := I.loc
  obtain ⟨u, r, l⟩ := hl i x v hN e hv
  have fin : EP X pins σ Q u s := ⟨v, H, I, r, h⟩
  rcases l with ⟨hk, hm⟩ | ⟨hk, c, hc, hcell⟩
  · exact wpAny_Name (wpAny_loadName_local I.ok.kind hk hn hm fin) hd
  · rcases hk with hk | hk
    · exact wpAny_Name (wpAny_loadName_cell I.ok.kind hk hc hcell fin) hd
    · exact wpAny_Name (wpAny_loadName_free I.ok.kind hk hc hcell fin hcd) hd
theorem pe_int {i j pos} : PE X (.Constant (.int i) j pos) (tC (.int i)) := fun _ _ _ H _ I h => wpAny_Constant_int ⟨.int i, H, I.tok _, ⟨_, rfl⟩, h⟩
theorem pe_bl {b j pos} : PE X (.Constant (.bool b) j pos) (tC (.bl b)) := fun _ _ _ H _ I h => Constant_bool ⟨.bl b, H, I, rfl, h⟩
/-- a global name of the def -/
def Gl (X : Cx) (x : Str) : Prop := X.env.kindOf x = some .globalImplicit
theorem ld_glob {E : Value → Shared → Prop} {pins : List (Addr × Obj)} {s : Shared} {σ : St} {H : Hp} {x : Str} {u : Value} {pos : Pos} {Q : Value → Shared → Prop} (I : Inv X pins σ H s) (hg : Gl X x) (hm : X.mg x = some u) (h : Q u s)
    (hd : (x == ("__debug__" : Str)) = false := by decide) : wpAny (model X.prog X.w) X.A (eval (.Name x pos) X.env) Q E s :=
  Calls.Name_function_global I.ok.kind hg (Calls.loadGlobal_global (by rw [I.ok.glob]; exact I.mod.glob.keeps I.bk) hm h) hd
theorem ld_blt {E : Value → Shared → Prop} {pins : List (Addr × Obj)} {s : Shared} {σ : St} {H : Hp} {x : Str} {u : Value} {pos : Pos} {Q : Value → Shared → Prop} (I : Inv X pins σ H s) (hg : Gl X x) (hm : X.mg x = none) (hv : bootBuiltins x = some u) (h : Q u s)
    (hn : x ≠ "__name__" := by decide) (hd : (x == ("__debug__" : Str)) = false := by decide) : wpAny (model X.prog X.w) X.A (eval (.Name x pos) X.env) Q E s := by
  obtain ⟨mb, h1, h2⟩ := I.mod.blt
  exact Calls.Name_function_global I.ok.kind hg (Calls.loadGlobal_builtin (by rw [I.ok.glob]; exact I.mod.glob.keeps I.bk) hm (by rw [I.ok.blt]; exact h1.keeps I.bk) ((h2 x hn).trans hv) h) hd
/-- a module's constant, a class, a function, as a value -/
theorem pe_glob {x : Str} {v : V} {u : Value} {pos : Pos} (hg : Gl X x) (hm : X.mg x = some u) (r : RelV v u) (hd : (x == ("__debug__" : Str)) = false := by decide) : PE X (.Name x pos) (tC v) :=
  fun _ _ _ H _ I h => ld_glob I hg hm ⟨v, H, I, r, h⟩ hd
/-! ### arithmetic -/
variable {a b : Expr} {ta tb : TE} {pos : Pos}
/-! ### comparisons -/
/-- a comparison as a value, as a test -/
def tB (t : TE) : TT := fun σ H Q => t σ H fun x H1 => ∃ c, x = .bl c ∧ Q c H1
/-- an expression whose value is a bool, as a test -/
theorem pt_val {e : Expr} {t : TE} (h : PE X e t) (he : ∀ whole, isTrue e X.env whole = (do let v ← whole; standAt e.pos; holding [v] (truthy v)) := by intro _; rfl) : PT X e (tB t) := by
  intro pins s σ H Q I hw
  refine isTrue_plain (thn (h pins s σ H _ I hw) fun v s1 ⟨x, H1, I1, r1, q1⟩ => ?_) (he _)
  obtain ⟨d, rfl, q⟩ := q1
  cases r1
  exact wpAny_truthy_bool ⟨H1, I1, q⟩

/-! ### and, or, not -/
variable {tA tB' : TT} {rest : List Expr}
def tAnd (t u : TT) : TT := fun σ H Q => t σ H fun c H1 => if c = true then u σ H1 Q else Q false H1
def tOr (t u : TT) : TT := fun σ H Q => t σ H fun c H1 => if c = true then Q true H1 else u σ H1 Q
def tNot (t : TT) : TT := fun σ H Q => t σ H fun c H1 => Q (!c) H1
theorem pw_and1 (ha : PT X a tA) : PW X (.BoolOp .And [a] pos) tA := by
  intro wh pins s σ H Q I h
  refine isTrue_and (thn (ha pins s σ H Q I h) fun c s1 e => ?_)
  cases c with
  | true => exact isTrue_and_nil e
  | false => exact e
theorem pw_or1 (ha : PT X a tA) : PW X (.BoolOp .Or [a] pos) tA := by
  intro wh pins s σ H Q I h
  refine isTrue_or (thn (ha pins s σ H Q I h) fun c s1 e => ?_)
  cases c with
  | false => exact isTrue_or_nil e
  | true => exact e
theorem pw_and (ha : PT X a tA) (hb : PW X (.BoolOp .And (b :: rest) pos) tB') : PW X (.BoolOp .And (a :: b :: rest) pos) (tAnd tA tB') := by
  intro wh pins s σ H Q I h
  refine isTrue_and (thn (ha pins s σ H _ I h) fun c s1 ⟨H1, I1, q1⟩ => ?_)
  cases c with
  | true => exact hb wh pins s1 σ H1 Q I1 q1
  | false => exact ⟨H1, I1, q1⟩
theorem pw_or (ha : PT X a tA) (hb : PW X (.BoolOp .Or (b :: rest) pos) tB') : PW X (.BoolOp .Or (a :: b :: rest) pos) (tOr tA tB') := by
  intro wh pins s σ H Q I h
  refine isTrue_or (thn (ha pins s σ H _ I h) fun c s1 ⟨H1, I1, q1⟩ => ?_)
  cases c with
  | true => exact ⟨H1, I1, q1⟩
  | false => exact hb wh pins s1 σ H1 Q I1 q1
theorem pt_not (ha : PT X a tA) : PT X (.UnaryOp .Not a pos) (tNot tA) := by
  intro pins s σ H Q I h
  exact isTrue_not (ha pins s σ H (fun c H1 => Q (!c) H1) I h)
/-- .. as values (bools) -/
def tAndV (ta tb : TE) : TE := fun σ H Q => ta σ H fun x H1 => ∃ c, x = .bl c ∧ if c = true then tb σ H1 Q else Q (.bl false) H1
theorem pe_one {op} {t : TE} (h : PE X a t) : PE X (.BoolOp op [a] pos) t := fun pins s σ H Q I hw => BoolOp_one (h pins s σ H Q I hw)
theorem pe_and (ha : PE X a ta) (hb : PE X (.BoolOp .And (b :: rest) pos) tb) : PE X (.BoolOp .And (a :: b :: rest) pos) (tAndV ta tb) := by
  intro pins s σ H Q I h
  refine BoolOp_and (thn (ha pins s σ H _ I h) fun v s1 ⟨x, H1, I1, r1, q1⟩ => ?_)
  obtain ⟨c, rfl, q1⟩ := q1
  cases r1
  refine wpAny_truthy_bool ?_
  cases c with
  | true => exact hb pins s1 σ H1 Q I1 q1
  | false => exact ⟨.bl false, H1, I1, rfl, q1⟩
/-- a if t else b -/
def tIf (t : TT) (ta tb : TE) : TE := fun σ H Q => t σ H fun c H1 => if c = true then ta σ H1 Q else tb σ H1 Q
theorem pe_ifExp {c : Expr} (hc : PT X c tA) (ha : PE X a ta) (hb : PE X b tb) : PE X (.IfExp c a b pos) (tIf tA ta tb) := by
  intro pins s σ H Q I h
  refine wpAny_IfExp (thn (hc pins s σ H _ I h) fun d s1 ⟨H1, I1, q1⟩ => ?_)
  cases d with
  | true => exact ha pins s1 σ H1 Q I1 q1
  | false => exact hb pins s1 σ H1 Q I1 q1
end
end L2

namespace L2
open PySem PySem.Spec PyProof.Rows

/-! ### a list, a tuple that is read: tracked, frozen, or an object of the module -/
def SqL (K : PySem.W.Frag) (H : Hp) (a : Addr) (xs : List V) : Prop :=
  Rd H a (.lst xs) ∨
    ∃ (o : Obj) (its : Array Value) (n : Nat), K.lookup a = some o ∧ o.cls = .type "list" ∧ o.dict = none ∧ o.data = .seq its n ∧ its.size ≤ sizeLine ∧ Vals xs its.toList
def SqT (K : PySem.W.Frag) (H : Hp) (a : Addr) (xs : List V) : Prop :=
  Rd H a (.tup xs) ∨
    ∃ (o : Obj) (its : Array Value) (n : Nat), K.lookup a = some o ∧ o.cls = .type "tuple" ∧ o.data = .seq its n ∧ its.size ≤ sizeLine ∧ Vals xs its.toList
def absV : Value → Option V
  | .none => some .non
  | .bool b => some (.bl b)
  | .int i _ => some (.int i)
  | .str x _ => some (.str x)
  | .bytes b _ => some (.byt b)
  | .float b _ => some (.flt b)
  | .ref a => some (.ref a)
  | .type n => some (.ty n)
  | _ => none
theorem RelV.abs {x : V} {u : Value} (r : RelV x u) : absV u = some x := by
  cases x with
  | non => cases r; rfl
  | bl _ => cases r; rfl
  | int _ => obtain ⟨t, rfl⟩ := r; rfl
  | str _ => obtain ⟨t, rfl⟩ := r; rfl
  | byt _ => obtain ⟨t, rfl⟩ := r; rfl
  | flt _ => obtain ⟨t, rfl⟩ := r; rfl
  | ref _ => cases r; rfl
  | ty _ => cases r; rfl
theorem RelV.inj {x y : V} {u : Value} (r : RelV x u) (q : RelV y u) : x = y := Option.some.inj (r.abs.symm.trans q.abs)
theorem Vals.inj : ∀ {xs ys : List V} {us : List Value}, Vals xs us → Vals ys us → xs = ys
  | _, _, _, .nil, .nil => rfl
  | _, _, _, .cons r t, .cons r' t' => by rw [r.inj r', Vals.inj t t']
section
variable {X : Cx} {pins : List (Addr × Obj)} {σ : St} {H : Hp} {s : Shared} {a : Addr} {xs ys : List V}
theorem SqL.of {K : PySem.W.Frag} (h : H a = some (.lst xs)) : SqL K H a xs := .inl (.inl h)
theorem SqT.of {K : PySem.W.Frag} (h : H a = some (.tup xs)) : SqT K H a xs := .inl (.inl h)
theorem Inv.list (I : Inv X pins σ H s) (h : SqL X.K H a xs) : ∃ its : List Value, Vals xs its ∧ PlainL s.heap a its.toArray ∧ xs.length ≤ sizeLine := by
  rcases h with h | ⟨o, its, n, hk, hc, hd, hs, hz, r⟩
  · obtain ⟨z, its, n, r, e⟩ := h.ok I.hok
    exact ⟨its, r, ⟨_, n, e, rfl, rfl, rfl⟩, z⟩
  · refine ⟨its.toList, r, ⟨o, n, I.kIn a o hk, hc, hd, by simpa using hs⟩, ?_⟩
    have e := r.length
    simp only [Array.length_toList] at e
    omega
theorem Inv.tuple (I : Inv X pins σ H s) (h : SqT X.K H a xs) : ∃ its : List Value, Vals xs its ∧ IsTup s.heap a its.toArray ∧ xs.length ≤ sizeLine := by
  rcases h with h | ⟨o, its, n, hk, hc, hs, hz, r⟩
  · obtain ⟨z, its, r, p⟩ := h.ok I.hok
    exact ⟨its, r, p, z⟩
  · refine ⟨its.toList, r, ⟨o, I.kIn a o hk, hc, n, by simpa using hs⟩, ?_⟩
    have e := r.length
    simp only [Array.length_toList] at e
    omega
theorem Inv.list_inj (I : Inv X pins σ H s) (h : SqL X.K H a xs) (h' : SqL X.K H a ys) : xs = ys := by
  obtain ⟨its, r, ⟨o, n, e, _, _, d⟩, _⟩ := I.list h
  obtain ⟨its', r', ⟨o', n', e', _, _, d'⟩, _⟩ := I.list h'
  rw [e] at e'; cases e'
  rw [d] at d'
  injection d' with d1 _
  have : its = its' := by simpa using congrArg Array.toList d1
  subst this
  exact r.inj r'
theorem Inv.tuple_inj (I : Inv X pins σ H s) (h : SqT X.K H a xs) (h' : SqT X.K H a ys) : xs = ys := by
  obtain ⟨its, r, ⟨o, e, _, n, d⟩, _⟩ := I.tuple h
  obtain ⟨its', r', ⟨o', e', _, n', d'⟩, _⟩ := I.tuple h'
  rw [e] at e'; cases e'
  rw [d] at d'
  injection d' with d1 _
  have : its = its' := by simpa using congrArg Array.toList d1
  subst this
  exact r.inj r'
end

/-! ### another wish about exceptions -/
abbrev Cx.wish (X : Cx) (E : Value → Shared → Prop) : Cx := { X with xe := E }
/-- no exception leaves -/
abbrev Cx.nox (X : Cx) : Cx := X.wish fun _ _ => False
theorem Cx.Ok.wish {X : Cx} (ok : X.Ok) (E : Value → Shared → Prop) : (X.wish E).Ok :=
  ⟨ok.mod, ok.kind, ok.glob, ok.blt, ok.above, ok.inj, ok.has, ok.cab, ok.hd, ok.frames, ok.stk, ok.exf, ok.bs, ok.bsz, ok.noex, ok.exfs, ok.funs, ok.frf⟩
theorem Cx.Ok.unwish {X : Cx} {E : Value → Shared → Prop} (ok : (X.wish E).Ok) : X.Ok :=
  ⟨ok.mod, ok.kind, ok.glob, ok.blt, ok.above, ok.inj, ok.has, ok.cab, ok.hd, ok.frames, ok.stk, ok.exf, ok.bs, ok.bsz, ok.noex, ok.exfs, ok.funs, ok.frf⟩
section
variable {X : Cx} {pins : List (Addr × Obj)} {σ : St} {H : Hp} {s : Shared} {E : Value → Shared → Prop}
theorem Inv.wish (I : Inv X pins σ H s) (E : Value → Shared → Prop) : Inv (X.wish E) pins σ H s := ⟨I.ok.wish E, I.os, I.bare, I.base, I.loc, I.cell, I.free, I.freeC, I.pin, I.hok, I.len⟩
theorem Inv.unwish (I : Inv (X.wish E) pins σ H s) : Inv X pins σ H s := ⟨I.ok.unwish, I.os, I.bare, I.base, I.loc, I.cell, I.free, I.freeC, I.pin, I.hok, I.len⟩
theorem SP.unwish {D : Ends} {f : Flow} {s' : Shared} (h : SP (X.wish E) pins D f s') : SP X pins D f s' := by
  cases f with
  | next => obtain ⟨σ', H', I, q⟩ := h; exact ⟨σ', H', I.unwish, q⟩
  | brk => obtain ⟨σ', H', I, q⟩ := h; exact ⟨σ', H', I.unwish, q⟩
  | cont => obtain ⟨σ', H', I, q⟩ := h; exact ⟨σ', H', I.unwish, q⟩
  | ret u => obtain ⟨v, σ', H', I, r, q⟩ := h; exact ⟨v, σ', H', I.unwish, r, q⟩
theorem PSs.nox {st : List Stmt} {t : TS} (h : PSs X.nox st t) : PSs X st t := fun pins s σ H D I hw =>
  wpAny_mono (h pins s σ H D (I.wish _) hw) (fun _ _ q => q.unwish) fun _ _ z => False.elim z
end

/-! ### blocks and small statements -/
section
variable {X : Cx} {st : Stmt} {rest : List Stmt} {t u : TS} {e : Expr} {te : TE} {pos : Pos}
def tNext : TS := fun D σ H => D.nx σ H
def tSeq (t u : TS) : TS := fun D σ H => t { D with nx := u D } σ H
theorem pss_nil : PSs X [] tNext := fun _ _ σ H _ I h => wpAny_execs_nil ⟨σ, H, I, h⟩
theorem pss_cons (h1 : PS X st t) (h2 : PSs X rest u) : PSs X (st :: rest) (tSeq t u) := by
  intro pins s σ H D I h
  refine wpAny_execs_cons (thn (h1 pins s σ H { D with nx := u D } I h) fun f s1 q => ?_)
  cases f with
  | next =>
    obtain ⟨σ', H', I', q⟩ := q
    exact h2 pins s1 σ' H' D I' q
  | ret v => exact q
  | brk => exact q
  | cont => exact q
theorem pss_one (h1 : PS X st t) : PSs X [st] t := by
  intro pins s σ H D I h
  refine wpAny_execs_cons (thn (h1 pins s σ H D I h) fun f s1 q => ?_)
  cases f with
  | next => exact wpAny_execs_nil q
  | ret v => exact q
  | brk => exact q
  | cont => exact q
def tCont : TS := fun D σ H => D.ct σ H
theorem ps_continue : PS X (.Continue pos) tCont := fun _ _ σ H _ I h => wpAny_Continue ⟨σ, H, I, h⟩
/-- in a def's body nothing is shown -/
theorem Inv.quiet {pins : List (Addr × Obj)} {σ : St} {H : Hp} {s : Shared} (I : Inv X pins σ H s) : interactive X.env = false := by simp [interactive, I.ok.kind]
/-- an expression whose value is dropped -/
def tDrop (te : TE) : TS := fun D σ H => te σ H fun _ H1 => D.nx σ H1
theorem ps_expr (he : PE X e te) (hs : swapsWith e none pos.line X.env = pure false := by rfl) : PS X (.Expr e pos) (tDrop te) := by
  intro pins s σ H D I h
  exact wpAny_Expr_any (thn (he pins s σ H _ I h) fun v s1 ⟨x, H1, I1, r1, q1⟩ => ⟨σ, H1, I1, q1⟩) I.quiet hs
def tRet (te : TE) : TS := fun D σ H => te σ H D.rt
theorem ps_ret (he : PE X e te) : PS X (.Return (some e) pos) (tRet te) := by
  intro pins s σ H D I h
  exact wpAny_Return_some (thn (he pins s σ H _ I h) fun v s1 ⟨x, H1, I1, r1, q1⟩ => ⟨x, σ, H1, I1, r1, q1⟩)
def tIfS (c : TT) (t u : TS) : TS := fun D σ H => c σ H fun b H1 => if b = true then t D σ H1 else u D σ H1
theorem ps_if {c : Expr} {a b : List Stmt} {tc : TT} (hc : PT X c tc) (ha : PSs X a t) (hb : PSs X b u) : PS X (.If c a b pos) (tIfS tc t u) := by
  intro pins s σ H D I h
  refine wpAny_If (thn (hc pins s σ H _ I h) fun d s1 ⟨H1, I1, q1⟩ => ?_)
  cases d with
  | true => exact ha pins s1 σ H1 D I1 q1
  | false => exact hb pins s1 σ H1 D I1 q1
end

/-! ### targets -/
abbrev TG := V → St → Hp → (St → Hp → Prop) → Prop
abbrev TGs := List V → St → Hp → (St → Hp → Prop) → Prop
def PG (X : Cx) (target : Expr) (t : TG) : Prop :=
  ∀ (pins : List (Addr × Obj)) (s : Shared) (σ : St) (H : Hp) (v : V) (u : Value) (Q : St → Hp → Prop), Inv X pins σ H s → RelV v u → t v σ H Q →
    wpAny (model X.prog X.w) X.A (assign target X.env u) (fun _ s' => ∃ σ' H', Inv X pins σ' H' s' ∧ Q σ' H') X.xe s
/-- several targets, one after another -/
def PGs (X : Cx) (ts : List Expr) (t : TGs) : Prop :=
  ∀ (pins : List (Addr × Obj)) (s : Shared) (σ : St) (H : Hp) (vs : List V) (us : List Value) (Q : St → Hp → Prop), Inv X pins σ H s → Vals vs us → t vs σ H Q →
    wpAny (model X.prog X.w) X.A (assignInOrder ((assignEach ts X.env).map (·.2)) us) (fun _ s' => ∃ σ' H', Inv X pins σ' H' s' ∧ Q σ' H') X.xe s
/-- o[i] = v, by values -/
abbrev TSet := V → V → V → Hp → (Hp → Prop) → Prop
def PSet (X : Cx) (t : TSet) : Prop :=
  ∀ (pins : List (Addr × Obj)) (s : Shared) (σ : St) (H : Hp) (o i v : V) (ov iv u : Value) (Q : Hp → Prop), Inv X pins σ H s → RelV o ov → RelV i iv → RelV v u → t o i v H Q →
    wpAny (model X.prog X.w) X.A (setItem ov iv u) (fun _ s' => ∃ H', Inv X pins σ H' s' ∧ Q H') X.xe s
section
variable {X : Cx} {pos : Pos}
def gName (i : Nat) : TG := fun v σ H Q => Q (σ.set i (some v)) H
theorem pg_name {i : Nat} {x : Str} (hN : X.N.Nodup) (hi : X.N[i]? = some x) (hx : Loc X.env.scope x) (hf : X.fn x = true ∨ X.env.scope.names.lookup x = some .local := by first | exact .inl rfl | exact .inr rfl | assumption) : PG X (.Name x pos) (gName i) := by
  intro pins s σ H v u Q I r h
  exact wpAny_assign_Name (store_ok I hN hi hx r (fun s' I' => ⟨_, H, I', h⟩) hf)
def gNil : TGs := fun vs σ H Q => vs = [] ∧ Q σ H
def gCons (t : TG) (u : TGs) : TGs := fun vs σ H Q => ∃ v r, vs = v :: r ∧ t v σ H fun σ' H' => u r σ' H' Q
theorem pgs_nil : PGs X [] gNil := by
  intro pins s σ H vs us Q I r h
  obtain ⟨e, h⟩ := h
  subst e
  cases r
  exact assignInOrder_nil ⟨σ, H, I, h⟩
theorem pgs_cons {e : Expr} {es : List Expr} {t : TG} {u : TGs} (h1 : PG X e t) (h2 : PGs X es u)
    (hs : (assignEach (e :: es) X.env).map (·.2) = assign e X.env :: (assignEach es X.env).map (·.2) := by rfl) : PGs X (e :: es) (gCons t u) := by
  intro pins s σ H vs us Q I r h
  obtain ⟨v, vr, e1, h⟩ := h
  subst e1
  cases r with
  | cons r rr =>
    rw [hs]
    refine assignInOrder_cons (thn (h1 pins s σ H _ _ _ I r h) fun _ s1 ⟨σ1, H1, I1, q1⟩ => ?_)
    exact h2 pins s1 σ1 H1 _ _ Q I1 rr q1
/-- (a, b, ..) = a tuple of that length -/
def gTup (K : PySem.W.Frag) (n : Nat) (t : TGs) : TG := fun v σ H Q => ∃ a xs, v = .ref a ∧ SqT K H a xs ∧ xs.length = n ∧ t xs σ H Q
theorem pg_tup {es : List Expr} {k : Nat} {t : TGs} {n : Nat} (hc : X.calm = true) (h : PGs X es t)
    (hn : (assignEach es X.env).length = n := by rfl) (hst : (assignEach es X.env).findIdx? (·.1) = none := by rfl) : PG X (.Tuple es k pos) (gTup X.K n t) := by
  intro pins s σ H v u Q I r hw
  obtain ⟨a, xs, e1, hq, hl, hw⟩ := hw
  subst e1
  cases r
  obtain ⟨its, rv, ht, hz⟩ := I.tuple hq
  refine assign_Tuple_tuple (I.ok.hd hc) ht (by simp [hn, ← hl, rv.length]) hst fun h' hx => ?_
  have I1 : Inv X pins σ H { s with heap := h' } := I.kept (t' := s.toks) fun b o e => hx b o (Nat.ne_of_lt (Heap.lt_size e)) e
  exact h pins _ σ H xs _ Q I1 (by simpa using rv) hw
/-- o[i] = .. -/
def gSub (to ti : TE) (t : TSet) : TG := fun v σ H Q => to σ H fun o H1 => ti σ H1 fun i H2 => t o i v H2 fun H3 => Q σ H3
theorem pg_sub {o i : Expr} {to ti : TE} {t : TSet} (ho : PE X o to) (hi : PE X i ti) (hs : PSet X t)
    (ha : ∀ v, assign (.Subscript o i pos) X.env v = (do
      let ov ← holding [v] (eval o X.env)
      let iv ← holding [v, ov] (eval i X.env)
      standAt pos
      holding [v, ov, iv] (setItem ov iv v)
      release [v, ov, iv] []) := by intro _; rfl) : PG X (.Subscript o i pos) (gSub to ti t) := by
  intro pins s σ H v u Q I r h
  rw [ha]
  refine wpAny_bind (wpAny_holding (thn (ho pins s σ H _ I h) fun ov s1 ⟨x, H1, I1, r1, q1⟩ => ?_))
  refine wpAny_bind (wpAny_holding (thn (hi pins s1 σ H1 _ I1 q1) fun iv s2 ⟨y, H2, I2, r2, q2⟩ => ?_))
  refine wpAny_bind (wpAny_standAt (wpAny_bind (wpAny_holding (thn (hs pins s2 σ H2 x y v ov iv u _ I2 r1 r2 r q2) fun _ s3 ⟨H3, I3, q3⟩ => ?_))))
  exact wpAny_release ⟨σ, H3, I3, q3⟩
/-- target = value -/
def tAsg (te : TE) (g : TG) : TS := fun D σ H => te σ H fun x H1 => g x σ H1 D.nx
theorem ps_asg {tg e : Expr} {te : TE} {g : TG} (he : PE X e te) (hg : PG X tg g) (hs : swapsWithSole [tg] e pos.line X.env = pure false := by rfl) (hw : swappedStores [tg] e X.env = pure none := by rfl)
    (h1 : (assignEach [tg] X.env).map (·.2) = [assign tg X.env] := by rfl) : PS X (.Assign [tg] e pos) (tAsg te g) := by
  intro pins s σ H D I h
  refine wpAny_Assign_stores (thn (he pins s σ H _ I h) fun v s1 ⟨x, H1, I1, r1, q1⟩ => ?_) hs hw
  rw [h1]
  exact thn (hg pins s1 σ H1 x v _ I1 r1 q1) fun _ s2 q => q
/-- name = value -/
theorem ps_set {i : Nat} {x : Str} {e : Expr} {te : TE} {pos' : Pos} (hN : X.N.Nodup) (hi : X.N[i]? = some x) (hx : Loc X.env.scope x) (he : PE X e te) (hs : swapsWith e (some (.Name x pos')) pos.line X.env = pure false := by rfl) (hf : X.fn x = true ∨ X.env.scope.names.lookup x = some .local := by first | exact .inl rfl | exact .inr rfl | assumption) :
    PS X (.Assign [.Name x pos'] e pos) (tAsg te (gName i)) := by
  intro pins s σ H D I h
  refine wpAny_Assign_Name (thn (he pins s σ H _ I h) fun v s1 ⟨y, H1, I1, r1, q1⟩ => ?_) hs
  exact store_ok I1 hN hi hx r1 (fun s2 I2 => ⟨_, H1, I2, q1⟩) hf
end

/-! ### while -/
section
variable {X : Cx} {pos : Pos}
end

/-! ### what a loop or a comprehension walks -/
/-- at turn i: it yields x (the heap may grow), or it stops -/
structure It where
  go : Nat → Hp → Prop
  yld : Nat → Hp → V → Hp → Prop
  stop : Nat → Hp → Prop
/-- the iterator's own objects may turn: they are not the frame's, not pinned, younger than the entry (or a comprehension's own) -/
def FpOk (X : Cx) (pins : List (Addr × Obj)) (H : Hp) (b : Addr) : Prop :=
  H b = none ∧ b ≠ X.env.locals ∧ b ∉ X.fs ∧ (b ∈ X.ex ∨ X.s_0.heap.objs.size ≤ b) ∧ (∀ x c, X.env.cells.lookup x = some c → c ≠ b) ∧ ∀ p ∈ X.pn ++ pins, p.1 ≠ b
theorem Inv.fpOk {X : Cx} {pins : List (Addr × Obj)} {σ : St} {H H' : Hp} {s : Shared} {b : Addr} (I : Inv X pins σ H s) (hb : s.heap.objs.size ≤ b) (hn : H' b = none) : FpOk X pins H' b := by
  refine ⟨hn, Nat.ne_of_gt (Nat.lt_of_lt_of_le I.lt hb), I.nofs hb, .inr (Nat.le_trans I.sz hb), fun x c e z => ?_, fun p hp z => ?_⟩
  · obtain ⟨v, q⟩ := I.cell x c e
    exact absurd (Nat.lt_of_lt_of_le q.lt (by rw [z]; exact hb)) (Nat.lt_irrefl _)
  · exact absurd (Nat.lt_of_lt_of_le (Heap.lt_size (I.pin p hp).1) (by rw [z]; exact hb)) (Nat.lt_irrefl _)
structure Turn (P : Program) (w : World) (K : PySem.W.Frag) (tg : Expr) (J : It) (fp : List Addr) (it : Addr) (tn : Nat → Heap → Prop) : Prop where
  mem : it ∈ fp
  obj : ∀ i h, tn i h → ∀ b ∈ fp, ∃ o, h.get? b = some o ∧ ∀ v, o.data ≠ .cell v
  keep : ∀ i h h', tn i h → (∀ b ∈ fp, ∀ o, h.get? b = some o → h'.get? b = some o) → tn i h'
  item : ∀ (X : Cx), X.prog = P → X.w = w → X.K = K → X.calm = true → ∀ (i : Nat) (pins : List (Addr × Obj)) (s : Shared) (σ : St) (H : Hp) (E : Value → Shared → Prop), Inv X pins σ H s → (∀ b ∈ fp, FpOk X pins H b) → tn i s.heap → J.go i H →
    wpAny (model P w) X.A (pyNext (.ref it)) (fun r s1 => ∃ u, r = some u ∧
      wpAny (model P w) X.A (letOwnedTupleGo tg (.ref it) u) (fun _ s2 => ∃ x H', Inv X pins σ H' s2 ∧ RelV x u ∧ J.yld i H x H' ∧ tn (i + 1) s2.heap ∧ ∀ b ∈ fp, H' b = none) E s1) E s
  done : ∀ (X : Cx), X.prog = P → X.w = w → X.K = K → X.calm = true → ∀ (i : Nat) (pins : List (Addr × Obj)) (s : Shared) (σ : St) (H : Hp) (E : Value → Shared → Prop), Inv X pins σ H s → (∀ b ∈ fp, FpOk X pins H b) → tn i s.heap → J.stop i H →
    wpAny (model P w) X.A (pyNext (.ref it)) (fun r s1 => r = none ∧ Inv X pins σ H s1) E s
  self : ∀ (A : Around) (i : Nat) (s : Shared) (Q : Value → Shared → Prop) (E : Value → Shared → Prop), tn i s.heap → Q (.ref it) s → wpAny (model P w) A (pyIter (.ref it)) Q E s
abbrev TI := St → Hp → (It → Hp → Prop) → Prop
/-- an iterator has come -/
def PIE (X : Cx) (pins : List (Addr × Obj)) (σ : St) (tg : Expr) (R : It → Hp → Prop) (itv : Value) (s2 : Shared) : Prop :=
  ∃ (it : Addr) (fp : List Addr) (tn : Nat → Heap → Prop) (J : It) (H' : Hp), itv = .ref it ∧ Inv X pins σ H' s2 ∧ Turn X.prog X.w X.K tg J fp it tn ∧ tn 0 s2.heap ∧ (∀ b ∈ fp, FpOk X pins H' b) ∧ R J H'
def PI (X : Cx) (tg iter : Expr) (wi : TI) : Prop :=
  ∀ (pins : List (Addr × Obj)) (s : Shared) (σ : St) (H : Hp) (R : It → Hp → Prop), Inv X pins σ H s → wi σ H R →
    wpAny (model X.prog X.w) X.A (eval iter X.env) (fun v s1 => wpAny (model X.prog X.w) X.A (pyIter v) (PIE X pins σ tg R) X.xe s1) X.xe s

/-- the step ahead of the store is nothing for an iterator that keeps no tuple -/
theorem go_of {M : Model} {A : Around} {E : Value → Shared → Prop} {s : Shared} {tg : Expr} {it : Addr} {u : Value} {o : Obj} {n : String} {vs : Array Value} {Q : Unit → Shared → Prop} (ho : s.heap.get? it = some o) (hc : o.cls = .type n) (hd : o.data = .fields vs)
    (hn : ["enumerate", "zip", "dict_itemiterator", "dict_reverseitemiterator", "odict_iterator", "itertools.zip_longest", "itertools.pairwise"].contains n = false) (hQ : Q () s) : wpAny M A (letOwnedTupleGo tg (.ref it) u) Q E s := by
  unfold letOwnedTupleGo
  cases tg <;> first
    | exact wpAny_pure hQ
    | (cases u <;> first
        | exact wpAny_pure hQ
        | (refine wpAny_bind (wpAny_load ho ?_)
           rw [hc, hd]
           show wpAny M A (if (["enumerate", "zip", "dict_itemiterator", "dict_reverseitemiterator", "odict_iterator", "itertools.zip_longest", "itertools.pairwise"].contains n && vs[0]? == some (rawInt _)) = true then _ else _) Q E s
           rw [if_neg (by intro h; rw [hn, Bool.false_and] at h; cases h)]
           exact wpAny_pure hQ))

/-- the list at a, as it stands at each turn (a loop may append to it) -/
def Itl (K : PySem.W.Frag) (a : Addr) : It :=
  ⟨fun i H => ∃ xs x, SqL K H a xs ∧ xs[i]? = some x, fun i H x H' => H' = H ∧ ∀ xs, SqL K H a xs → xs[i]? = some x, fun i H => ∃ xs, SqL K H a xs ∧ xs.length ≤ i⟩
def Itt (K : PySem.W.Frag) (a : Addr) : It :=
  ⟨fun i H => ∃ xs x, SqT K H a xs ∧ xs[i]? = some x, fun i H x H' => H' = H ∧ ∀ xs, SqT K H a xs → xs[i]? = some x, fun i H => ∃ xs, SqT K H a xs ∧ xs.length ≤ i⟩
/-- lo, lo + 1, .. (n of them) -/
def Itr (lo : Int) (n : Nat) : It := ⟨fun i _ => i < n, fun i H x H' => H' = H ∧ x = .int (lo + i), fun i _ => n ≤ i⟩
theorem turn_list {P : Program} {w : World} {K : PySem.W.Frag} {tg : Expr} (a it : Addr) : Turn P w K tg (Itl K a) [it] it (fun i h => h.IsListIter it a i) where
  mem := by simp
  obj := fun i h st b hb => by
    have e : b = it := by simpa using hb
    subst e
    obtain ⟨o, e, c, d⟩ := st
    exact ⟨o, e, fun v z => by rw [d] at z; cases z⟩
  keep := fun i h h' st k => st.at fun o e => k it (by simp) o e
  item := by
    intro X hP hw hK hc i pins s σ H E I hf st hg
    subst hP hw hK
    obtain ⟨xs, x, hq, hx⟩ := hg
    obtain ⟨its, rv, p, hz⟩ := I.list hq
    obtain ⟨u, hu, ru⟩ := rv.get hx
    obtain ⟨f0, f1, f2, f3, f4, f5⟩ := hf it (by simp)
    refine wpAny_pyNext_list_item st p.isList (x := u) (by simpa using hu) fun h' st' sb => ?_
    have I1 : Inv X pins σ H { s with heap := h' } := I.turned (t' := s.toks) (fun b o hb e => (sb.2 b hb).trans e) f0 f1 f3 f4 f5
    obtain ⟨o, e, c, d⟩ := id st'
    exact ⟨u, rfl, go_of (s := { s with heap := h' }) e c d (by decide) ⟨x, H, I1, ru, ⟨rfl, fun ys hy => by rw [I.list_inj hy hq]; exact hx⟩, st', fun b hb => (hf b hb).1⟩⟩
  done := by
    intro X hP hw hK hc i pins s σ H E I hf st hg
    subst hP hw hK
    obtain ⟨xs, hq, hx⟩ := hg
    obtain ⟨its, rv, p, hz⟩ := I.list hq
    obtain ⟨f0, f1, f2, f3, f4, f5⟩ := hf it (by simp)
    have hl := rv.length
    exact wpAny_pyNext_list_end (I.ok.hd hc) st p.isList (by simp; omega) fun h' eb => ⟨rfl, I.turned (t' := s.toks) (fun b o hb e => eb b o hb e) f0 f1 f3 f4 f5⟩
  self := fun _ _ _ _ _ st h => wpAny_pyIter_listiter st h
theorem turn_tuple {P : Program} {w : World} {K : PySem.W.Frag} {tg : Expr} (a it : Addr) : Turn P w K tg (Itt K a) [it] it (fun i h => h.IsTupleIter it a i) where
  mem := by simp
  obj := fun i h st b hb => by
    have e : b = it := by simpa using hb
    subst e
    obtain ⟨o, e, c, d⟩ := st
    exact ⟨o, e, fun v z => by rw [d] at z; cases z⟩
  keep := fun i h h' st k => st.at fun o e => k it (by simp) o e
  item := by
    intro X hP hw hK hc i pins s σ H E I hf st hg
    subst hP hw hK
    obtain ⟨xs, x, hq, hx⟩ := hg
    obtain ⟨its, rv, p, hz⟩ := I.tuple hq
    obtain ⟨u, hu, ru⟩ := rv.get hx
    obtain ⟨f0, f1, f2, f3, f4, f5⟩ := hf it (by simp)
    refine wpAny_pyNext_tuple_item st (show s.heap.IsTuple a its.toArray from p) (x := u) (by simpa using hu) fun h' st' sb => ?_
    have I1 : Inv X pins σ H { s with heap := h' } := I.turned (t' := s.toks) (fun b o hb e => (sb.2 b hb).trans e) f0 f1 f3 f4 f5
    obtain ⟨o, e, c, d⟩ := id st'
    exact ⟨u, rfl, go_of (s := { s with heap := h' }) e c d (by decide) ⟨x, H, I1, ru, ⟨rfl, fun ys hy => by rw [I.tuple_inj hy hq]; exact hx⟩, st', fun b hb => (hf b hb).1⟩⟩
  done := by
    intro X hP hw hK hc i pins s σ H E I hf st hg
    subst hP hw hK
    obtain ⟨xs, hq, hx⟩ := hg
    obtain ⟨its, rv, p, hz⟩ := I.tuple hq
    obtain ⟨f0, f1, f2, f3, f4, f5⟩ := hf it (by simp)
    have hl := rv.length
    exact wpAny_pyNext_tuple_end (I.ok.hd hc) st (show s.heap.IsTuple a its.toArray from p) (by simp; omega) fun h' eb => ⟨rfl, I.turned (t' := s.toks) (fun b o hb e => eb b o hb e) f0 f1 f3 f4 f5⟩
  self := fun _ _ _ _ _ st h => wpAny_pyIter_tupleiter st h
theorem turn_range {P : Program} {w : World} {K : PySem.W.Frag} {tg : Expr} (it : Addr) (lo : Int) (n : Nat) : Turn P w K tg (Itr lo n) [it] it (fun i h => IsRangeIter h it (lo + (i : Nat) * 1) ((n : Int) - (i : Nat)) 1) where
  mem := by simp
  obj := fun i h st b hb => by
    have e : b = it := by simpa using hb
    subst e
    exact ⟨_, st, fun v z => by
      have z' : Data.fields _ = Data.cell v := z
      cases z'⟩
  keep := fun i h h' st k => k it (by simp) _ st
  item := by
    intro X hP hw hK hc i pins s σ H E I hf st hg
    subst hP hw hK
    obtain ⟨f0, f1, f2, f3, f4, f5⟩ := hf it (by simp)
    have W := Walks.range (prog := X.prog) (w := X.w) (I.ok.hd hc) it lo 1 n
    refine W.item i s _ _ hg st fun v h' tk hv st' kk => ?_
    obtain ⟨t, rfl⟩ := hv
    have I1 : Inv X pins σ H { s with heap := h', toks := tk } := I.turned (fun b o hb e => kk b o (by simpa using hb) e) f0 f1 f3 f4 f5
    refine ⟨_, rfl, go_of (s := { s with heap := h', toks := tk }) (n := "range_iterator") st' rfl rfl (by decide) ⟨.int (lo + i), H, I1, ⟨t, ?_⟩, ⟨rfl, rfl⟩, st', fun b hb => (hf b hb).1⟩⟩
    rw [Int.mul_one]
  done := by
    intro X hP hw hK hc i pins s σ H E I hf st hg
    subst hP hw hK
    obtain ⟨f0, f1, f2, f3, f4, f5⟩ := hf it (by simp)
    exact wpAny_pyNext_range_end (I.ok.hd hc) st (by have : n ≤ i := hg; omega) fun h' eb => ⟨rfl, I.turned (t' := s.toks) (fun b o hb e => eb b o hb e) f0 f1 f3 f4 f5⟩
  self := fun _ _ _ _ _ st h => wpAny_pyIter_rangeiter st h
end L2

namespace L2
open PySem PySem.Spec PyProof.Rows
section
variable {X : Cx} {tg : Expr}
def iList (K : PySem.W.Frag) (tl : TE) : TI := fun σ H R => tl σ H fun x H1 => ∃ a, x = .ref a ∧ (∃ xs, SqL K H1 a xs) ∧ R (Itl K a) H1
def iTup (K : PySem.W.Frag) (tl : TE) : TI := fun σ H R => tl σ H fun x H1 => ∃ a, x = .ref a ∧ (∃ xs, SqT K H1 a xs) ∧ R (Itt K a) H1
theorem pi_list {l : Expr} {tl : TE} (hl : PE X l tl) : PI X tg l (iList X.K tl) := by
  intro pins s σ H R I h
  refine thn (hl pins s σ H _ I h) fun v s1 ⟨x, H1, I1, r1, q1⟩ => ?_
  obtain ⟨a, e, ⟨xs, hq⟩, q⟩ := q1
  subst e
  cases r1
  obtain ⟨its, rv, p, hz⟩ := I1.list hq
  refine wpAny_pyIter_list p.isList ?_
  refine ⟨s1.heap.objs.size, [s1.heap.objs.size], _, _, H1, rfl, I1.kept (t' := s1.toks) fun b o e => Heap.get?_push_of_some _ e, turn_list a _, ⟨_, Heap.get?_push_size _ rfl, rfl, rfl⟩, fun b hb => ?_, q⟩
  have e : b = s1.heap.objs.size := by simpa using hb
  subst e
  exact I1.fpOk (Nat.le_refl _) (I1.hok.fresh (Nat.le_refl _))
theorem pi_tup {l : Expr} {tl : TE} (hl : PE X l tl) : PI X tg l (iTup X.K tl) := by
  intro pins s σ H R I h
  refine thn (hl pins s σ H _ I h) fun v s1 ⟨x, H1, I1, r1, q1⟩ => ?_
  obtain ⟨a, e, ⟨xs, hq⟩, q⟩ := q1
  subst e
  cases r1
  obtain ⟨its, rv, p, hz⟩ := I1.tuple hq
  refine wpAny_pyIter_tuple (show s1.heap.IsTuple a its.toArray from p) ?_
  refine ⟨s1.heap.objs.size, [s1.heap.objs.size], _, _, H1, rfl, I1.kept (t' := s1.toks) fun b o e => Heap.get?_push_of_some _ e, turn_tuple a _, ⟨_, Heap.get?_push_size _ rfl, rfl, rfl⟩, fun b hb => ?_, q⟩
  have e : b = s1.heap.objs.size := by simpa using hb
  subst e
  exact I1.fpOk (Nat.le_refl _) (I1.hok.fresh (Nat.le_refl _))
/-- a range object just made, walked -/
theorem range_it {pins : List (Addr × Obj)} {σ : St} {H : Hp} {s : Shared} {R : It → Hp → Prop} {E : Value → Shared → Prop} {lo hi : Int} {t u v : Tok} {tk : Nat} (I : Inv X pins σ H s) (h1 : -(2 ^ 62) ≤ lo) (h2 : lo < 2 ^ 62) (h3 : -(2 ^ 62) ≤ hi) (h4 : hi < 2 ^ 62)
    (q : R (Itr lo (hi - lo).toNat) H) : wpAny (model X.prog X.w) X.A (pyIter (.ref s.heap.objs.size)) (PIE X pins σ tg R) E { s with heap := s.heap.push { cls := .type "range", data := .fields #[.int lo t, .int hi u, .int 1 v] }, toks := tk } := by
  refine wpAny_pyIter_range (IsRange.new ..) (small_one h1 h2 h3 h4) ?_
  have I1 : Inv X pins σ H { s with heap := s.heap.push { cls := .type "range", data := .fields #[.int lo t, .int hi u, .int 1 v] }, toks := tk } := I.kept fun b o e => Heap.get?_push_of_some _ e
  refine ⟨(s.heap.push { cls := .type "range", data := .fields #[.int lo t, .int hi u, .int 1 v] }).objs.size, [(s.heap.push { cls := .type "range", data := .fields #[.int lo t, .int hi u, .int 1 v] }).objs.size], _, _, H, rfl,
    I1.kept (t' := tk) fun b o e => Heap.get?_push_of_some _ e, turn_range _ lo (hi - lo).toNat, ?_, fun b hb => ?_, q⟩
  · have e1 : lo + ((0 : Nat) : Int) * 1 = lo := by simp
    have e2 : (((hi - lo).toNat : Nat) : Int) - ((0 : Nat) : Int) = Builtin.Range.rangeSize lo hi 1 := by rw [rangeSize_one]; split <;> omega
    show IsRangeIter _ _ (lo + ((0 : Nat) : Int) * 1) ((((hi - lo).toNat : Nat) : Int) - ((0 : Nat) : Int)) 1
    rw [e1, e2]
    exact Heap.get?_push_size _ rfl
  · have e : b = (s.heap.push { cls := .type "range", data := .fields #[.int lo t, .int hi u, .int 1 v] }).objs.size := by simpa using hb
    subst e
    exact I1.fpOk (Nat.le_refl _) (I1.hok.fresh (Nat.le_refl _))
def iRng1 (ta : TA) : TI := fun σ H R => ta σ H fun vs H1 => ∃ j : Int, vs = [.int j] ∧ -(2 ^ 62) ≤ j ∧ j < 2 ^ 62 ∧ R (Itr 0 j.toNat) H1
def iRng2 (ta : TA) : TI := fun σ H R => ta σ H fun vs H1 => ∃ i j : Int, vs = [.int i, .int j] ∧ (-(2 ^ 62) ≤ i ∧ i < 2 ^ 62 ∧ -(2 ^ 62) ≤ j ∧ j < 2 ^ 62) ∧ R (Itr i (j - i).toNat) H1
theorem pi_range1 {a : Expr} {ta : TA} {p pos : Pos} (hg : Gl X "range") (hm : X.mg "range" = none) (ha : PA X [a] ta) (hs : starEach [a] X.env = [(false, eval a X.env)] := by rfl) : PI X tg (.Call (.Name "range" p) [a] [] pos) (iRng1 ta) := by
  intro pins s σ H R I h
  refine Call_ (ld_blt I hg hm boot_range (PyProof.Rows.callWith_type1 (thn (ha pos pins s σ H _ I h) fun us s1 ⟨vs, H1, I1, r1, q1⟩ => ?_) hs rfl))
  obtain ⟨j, e, q1, q2, q⟩ := q1
  subst e
  cases r1 with
  | cons r rr =>
    cases rr
    obtain ⟨t, rfl⟩ := r
    exact call_range_1 (range_it I1 (by omega) (by omega) q1 q2 (by simpa using q))
theorem pi_range2 {a b : Expr} {ta : TA} {p pos : Pos} (hg : Gl X "range") (hm : X.mg "range" = none) (ha : PA X [a, b] ta) (hs : starEach [a, b] X.env = [(false, eval a X.env), (false, eval b X.env)] := by rfl) (hs2 : starEach [b] X.env = [(false, eval b X.env)] := by rfl) :
    PI X tg (.Call (.Name "range" p) [a, b] [] pos) (iRng2 ta) := by
  intro pins s σ H R I h
  refine Call_ (ld_blt I hg hm boot_range (PyProof.Rows.callWith_type1 (thn (ha pos pins s σ H _ I h) fun us s1 ⟨vs, H1, I1, r1, q1⟩ => ?_) (by rw [hs, hs2]) (by rw [hs2]; rfl)))
  obtain ⟨i, j, e, ⟨q1, q2, q3, q4⟩, q⟩ := q1
  subst e
  cases r1 with
  | cons r rr =>
    cases rr with
    | cons r' rr =>
      cases rr
      obtain ⟨t, rfl⟩ := r
      obtain ⟨t', rfl⟩ := r'
      exact call_range_2 (range_it I1 q1 q2 q3 q4 q)

/-! ### for -/
/-- W: the invariant by the turn and a measure; N: what the body is to reach -/
def tFor (wi : TI) (g : TG) (tb : TS) : TS := fun D σ H => wi σ H fun J H1 => ∃ W : Nat → Nat → St → Hp → Prop, (∃ m, W 0 m σ H1) ∧ ∀ i m σ H, W i m σ H →
  (J.stop i H ∧ D.nx σ H) ∨ (J.go i H ∧ ∃ N : St → Hp → Prop, (∀ σ' H', N σ' H' → ∃ m', m' < m ∧ W (i + 1) m' σ' H') ∧ ∀ x H', J.yld i H x H' → g x σ H' fun σ2 H2 => tb { D with nx := N, ct := N, bk := D.nx } σ2 H2)
/-- the records at fp as they stand -/
def pinsAt (fp : List Addr) (h : Heap) : List (Addr × Obj) := fp.filterMap fun b => (h.get? b).map fun o => (b, o)
theorem mem_pinsAt {fp : List Addr} {h : Heap} {b : Addr} {o : Obj} (hb : b ∈ fp) (e : h.get? b = some o) : (b, o) ∈ pinsAt fp h := List.mem_filterMap.mpr ⟨b, hb, by rw [e]; rfl⟩
theorem of_pinsAt {fp : List Addr} {h : Heap} {p : Addr × Obj} (hp : p ∈ pinsAt fp h) : p.1 ∈ fp ∧ h.get? p.1 = some p.2 := by
  obtain ⟨b, hb, e⟩ := List.mem_filterMap.mp hp
  cases q : h.get? b with
  | none => rw [q] at e; cases e
  | some o =>
    rw [q] at e
    have e' : (b, o) = p := Option.some.inj e
    subst e'
    exact ⟨hb, q⟩
theorem Inv.pinned {pins : List (Addr × Obj)} {σ : St} {H : Hp} {s : Shared} {fp : List Addr} (I : Inv X pins σ H s) (hf : ∀ b ∈ fp, FpOk X pins H b) (ho : ∀ b ∈ fp, ∃ o, s.heap.get? b = some o ∧ ∀ v, o.data ≠ .cell v) : Inv X (pins ++ pinsAt fp s.heap) σ H s :=
  I.pins_of fun p hp => (List.mem_append.mp hp).elim (fun z => I.pin p (List.mem_append_right _ z)) fun z => by
    obtain ⟨hb, e⟩ := of_pinsAt z
    obtain ⟨f0, f1, f2, _⟩ := hf p.1 hb
    obtain ⟨o, e', d⟩ := ho p.1 hb
    rw [e] at e'; cases e'
    exact ⟨e, f0, f1, f2, d⟩
theorem Inv.unpinned {pins pl : List (Addr × Obj)} {σ : St} {H : Hp} {s : Shared} (I : Inv X (pins ++ pl) σ H s) : Inv X pins σ H s := I.pins_of fun p hp => I.pin p (List.mem_append_right _ (List.mem_append_left _ hp))
theorem ps_for {iter : Expr} {body : List Stmt} {wi : TI} {g : TG} {tb : TS} {pos : Pos} (hp : PassesOwn (model X.prog X.w) X.A X.env X.xe) (hc : X.calm = true) (hi : PI X tg iter wi) (hg : PG X tg g) (hb : PSs X body tb)
    (hs : ∀ x, foldedSetIterable iter X.env x = pure x := by intro _; rfl) : PS X (.For tg iter body [] pos) (tFor wi g tb) := by
  intro pins s σ H D I h
  refine wpAny_For (thn (hi pins s σ H _ I h) fun v s1 h1 => thn h1 fun itv s2 h2 => ?_) hs
  obtain ⟨it, fp, tn, J, H2, e, I2, T, st2, f2, W, ⟨m0, w0⟩, turn⟩ := h2
  subst e
  -- what stays true of the iterator's objects through the loop
  have stat : ∀ {H' : Hp}, (∀ b ∈ fp, H' b = none) → ∀ b ∈ fp, FpOk X pins H' b := fun hn b hb => ⟨hn b hb, (f2 b hb).2⟩
  refine codeAny_forLoop_any (fun n s' => ∃ i σ' H', Inv X pins σ' H' s' ∧ tn i s'.heap ∧ (∀ b ∈ fp, H' b = none) ∧ W i n σ' H') ?_ m0 ⟨0, σ, H2, I2, st2, fun b hb => (f2 b hb).1, w0⟩
  rintro n s3 ⟨i, σ3, H3, I3, st3, fr3, w3⟩
  rcases turn i n σ3 H3 w3 with ⟨stop, qn⟩ | ⟨go, N, hN, step⟩
  · refine wpAny_passesOwn hp (thn (T.done X rfl rfl rfl hc i pins s3 σ3 H3 X.xe I3 (stat fr3) st3 stop) fun r s4 ⟨hr, I4⟩ => ?_)
    subst hr
    exact wpAny_execs_nil ⟨σ3, H3, I4, qn⟩
  · refine wpAny_passesOwn hp (thn (T.item X rfl rfl rfl hc i pins s3 σ3 H3 X.xe I3 (stat fr3) st3 go) fun r s4 ⟨u, hr, h4⟩ => ?_)
    subst hr
    refine wpAny_passesOwn hp (thn h4 fun _ s5 ⟨x, H5, I5, r5, y5, st5, fr5⟩ => ?_)
    have I5' := I5.pinned (stat fr5) (T.obj _ _ st5)
    refine wpAny_passesOwn hp (thn (hg _ s5 σ3 H5 x u _ I5' r5 (step x H5 y5)) fun _ s6 ⟨σ6, H6, I6, q6⟩ => ?_)
    refine wpAny_passesOwn hp (thn (hb _ s6 σ6 H6 _ I6 q6) fun f s7 q7 => ?_)
    have again : ∀ {σ7 : St} {H7 : Hp}, Inv X (pins ++ pinsAt fp s5.heap) σ7 H7 s7 → N σ7 H7 → ∃ m, m < n ∧ ∃ i σ' H', Inv X pins σ' H' s7 ∧ tn i s7.heap ∧ (∀ b ∈ fp, H' b = none) ∧ W i m σ' H' := fun {σ7 H7} I7 n7 => by
      obtain ⟨m', hm, w7⟩ := hN σ7 H7 n7
      refine ⟨m', hm, i + 1, σ7, H7, I7.unpinned, T.keep _ _ _ st5 fun b hb o e => (I7.pin (b, o) (List.mem_append_right _ (List.mem_append_right _ (mem_pinsAt hb e)))).1, fun b hb => ?_, w7⟩
      obtain ⟨o, e, d⟩ := T.obj _ _ st5 b hb
      exact (I7.pin (b, o) (List.mem_append_right _ (List.mem_append_right _ (mem_pinsAt hb e)))).2.1
    cases f with
    | next => obtain ⟨σ7, H7, I7, n7⟩ := q7; exact again I7 n7
    | cont => obtain ⟨σ7, H7, I7, n7⟩ := q7; exact again I7 n7
    | brk => obtain ⟨σ7, H7, I7, q7⟩ := q7; exact ⟨σ7, H7, I7.unpinned, q7⟩
    | ret v => obtain ⟨x7, σ7, H7, I7, r7, q7⟩ := q7; exact ⟨x7, σ7, H7, I7.unpinned, r7, q7⟩
end

/-! ### the forms one uses -/
/-- over a list that the body leaves as it is -/
theorem for_list {K : PySem.W.Frag} {a : Addr} {xs : List V} {g : TG} {tb : TS} {D : Ends} {σ : St} {H : Hp} (Pv : Nat → St → Hp → Prop) (h0 : Pv 0 σ H) (hl : ∀ i σ H, i ≤ xs.length → Pv i σ H → SqL K H a xs)
    (hs : ∀ i x σ H, xs[i]? = some x → Pv i σ H → g x σ H fun σ2 H2 => tb { D with nx := Pv (i + 1), ct := Pv (i + 1), bk := D.nx } σ2 H2) (hd : ∀ σ H, Pv xs.length σ H → D.nx σ H) :
    ∃ W : Nat → Nat → St → Hp → Prop, (∃ m, W 0 m σ H) ∧ ∀ i m σ H, W i m σ H →
      ((Itl K a).stop i H ∧ D.nx σ H) ∨ ((Itl K a).go i H ∧ ∃ N : St → Hp → Prop, (∀ σ' H', N σ' H' → ∃ m', m' < m ∧ W (i + 1) m' σ' H') ∧ ∀ x H', (Itl K a).yld i H x H' → g x σ H' fun σ2 H2 => tb { D with nx := N, ct := N, bk := D.nx } σ2 H2) := by
  refine ⟨fun i m σ H => m = xs.length - i ∧ i ≤ xs.length ∧ Pv i σ H, ⟨xs.length, by simp, Nat.zero_le _, h0⟩, ?_⟩
  rintro i m σ H ⟨rfl, hi, p⟩
  have q := hl i σ H hi p
  by_cases hlt : i < xs.length
  · refine .inr ⟨⟨xs, xs[i], q, by simp [hlt]⟩, Pv (i + 1), fun σ' H' p' => ⟨xs.length - (i + 1), by omega, rfl, hlt, p'⟩, fun x H' y => ?_⟩
    obtain ⟨e, y⟩ := y
    subst e
    exact hs i x σ _ (y xs q) p
  · have e : i = xs.length := by omega
    subst e
    exact .inl ⟨⟨xs, q, Nat.le_refl _⟩, hd σ H p⟩
theorem for_range {lo : Int} {n : Nat} {g : TG} {tb : TS} {D : Ends} {σ : St} {H : Hp} (Pv : Nat → St → Hp → Prop) (h0 : Pv 0 σ H)
    (hs : ∀ i σ H, i < n → Pv i σ H → g (.int (lo + i)) σ H fun σ2 H2 => tb { D with nx := Pv (i + 1), ct := Pv (i + 1), bk := D.nx } σ2 H2) (hd : ∀ σ H, Pv n σ H → D.nx σ H) :
    ∃ W : Nat → Nat → St → Hp → Prop, (∃ m, W 0 m σ H) ∧ ∀ i m σ H, W i m σ H →
      ((Itr lo n).stop i H ∧ D.nx σ H) ∨ ((Itr lo n).go i H ∧ ∃ N : St → Hp → Prop, (∀ σ' H', N σ' H' → ∃ m', m' < m ∧ W (i + 1) m' σ' H') ∧ ∀ x H', (Itr lo n).yld i H x H' → g x σ H' fun σ2 H2 => tb { D with nx := N, ct := N, bk := D.nx } σ2 H2) := by
  refine ⟨fun i m σ H => m = n - i ∧ i ≤ n ∧ Pv i σ H, ⟨n, by simp, Nat.zero_le _, h0⟩, ?_⟩
  rintro i m σ H ⟨rfl, hi, p⟩
  by_cases hlt : i < n
  · refine .inr ⟨hlt, Pv (i + 1), fun σ' H' p' => ⟨n - (i + 1), by omega, rfl, hlt, p'⟩, fun x H' y => ?_⟩
    obtain ⟨e, y⟩ := y
    subst e y
    exact hs i σ _ hlt p
  · have e : i = n := by omega
    subst e
    exact .inl ⟨Nat.le_refl _, hd σ H p⟩
end L2

namespace L2
open PySem PySem.Spec PyProof.Rows

abbrev R2 := V → V → Hp → VK → Prop
/-- a two-place operation on values: f is binaryOp op, inplaceOp op or compareOp op -/
def OpR (X : Cx) (f : Value → Value → Sem Value) (r : R2) : Prop :=
  ∀ (pins : List (Addr × Obj)) (s : Shared) (σ : St) (H : Hp) (x y : V) (v u : Value) (Q : VK), Inv X pins σ H s → RelV x v → RelV y u → r x y H Q →
    wpAny (model X.prog X.w) X.A (f v u) (EP X pins σ Q) X.xe s
/-- a one-place operation -/
def UnR (X : Cx) (f : Value → Sem Value) (r : V → Hp → VK → Prop) : Prop :=
  ∀ (pins : List (Addr × Obj)) (s : Shared) (σ : St) (H : Hp) (x : V) (v : Value) (Q : VK), Inv X pins σ H s → RelV x v → r x H Q →
    wpAny (model X.prog X.w) X.A (f v) (EP X pins σ Q) X.xe s
/-- a call of a value that is known (a builtin, a type) with values -/
def CallR (X : Cx) (f : Value) (r : List V → Hp → VK → Prop) : Prop :=
  ∀ (pins : List (Addr × Obj)) (s : Shared) (σ : St) (H : Hp) (xs : List V) (us : List Value) (Q : VK), Inv X pins σ H s → Vals xs us → r xs H Q →
    wpAny (model X.prog X.w) X.A (call f us) (EP X pins σ Q) X.xe s
def tOp (r : R2) (ta tb : TE) : TE := fun σ H Q => ta σ H fun x H1 => tb σ H1 fun y H2 => r x y H2 Q
def tUn (r : V → Hp → VK → Prop) (ta : TE) : TE := fun σ H Q => ta σ H fun x H1 => r x H1 Q
/-- ints in, under C, and a value out -/
def rI (C : Int → Int → Prop) (g : Int → Int → V) : R2 := fun x y H Q => ∃ i j, x = .int i ∧ y = .int j ∧ C i j ∧ Q (g i j) H
def rI0 (g : Int → Int → V) : R2 := fun x y H Q => ∃ i j, x = .int i ∧ y = .int j ∧ Q (g i j) H
def rU (g : Int → V) : V → Hp → VK → Prop := fun x H Q => ∃ i, x = .int i ∧ Q (g i) H

section
variable {X : Cx} {a b c : Expr} {ta tb tc : TE} {pos : Pos}

theorem binT (ha : PE X a ta) (hb : PE X b tb) {pins : List (Addr × Obj)} {s : Shared} {σ : St} {H : Hp} {R : V → V → Hp → Prop} (I : Inv X pins σ H s)
    (h : ta σ H fun x H1 => tb σ H1 fun y H2 => R x y H2) {Q : Value → Shared → Prop} {f : Value → Value → Sem Value}
    (hf : ∀ v u s2 x y H2, Inv X pins σ H2 s2 → RelV x v → RelV y u → R x y H2 → wpAny (model X.prog X.w) X.A (f v u) Q X.xe s2) :
    wpAny (model X.prog X.w) X.A (eval a X.env) (fun v s₁ => wpAny (model X.prog X.w) X.A (eval b X.env) (fun u s₂ => wpAny (model X.prog X.w) X.A (f v u) Q X.xe s₂) X.xe s₁) X.xe s := by
  refine thn (ha pins s σ H _ I h) fun v s1 ⟨x, H1, I1, r1, q1⟩ => ?_
  refine thn (hb pins s1 σ H1 _ I1 q1) fun u s2 ⟨y, H2, I2, r2, q2⟩ => ?_
  exact hf v u s2 x y H2 I2 r1 r2 q2

theorem pe_op {op : Operator} {r : R2} (ho : OpR X (binaryOp op) r) (ha : PE X a ta) (hb : PE X b tb) : PE X (.BinOp a op b pos) (tOp r ta tb) := by
  intro pins s σ H Q I h
  exact wpAny_BinOp (binT ha hb I h fun v u s2 x y H2 I2 rx ry q => ho pins s2 σ H2 x y v u Q I2 rx ry q)
theorem pe_un {op : UnaryOp} {r : V → Hp → VK → Prop} (ho : UnR X (unaryOp op) r) (ha : PE X a ta) : PE X (.UnaryOp op a pos) (tUn r ta) := by
  intro pins s σ H Q I h
  exact UnaryOp_ (thn (ha pins s σ H _ I h) fun v s1 ⟨x, H1, I1, r1, q1⟩ => ho pins s1 σ H1 x v Q I1 r1 q1)
/-! ### ints -/
theorem opI {f : Value → Value → Sem Value} {C : Int → Int → Prop} {g : Int → Int → Int}
    (rule : ∀ (i j : Int) (t u : Tok) (s : Shared) (Q : Value → Shared → Prop) (E : Value → Shared → Prop), C i j → Q (.int (g i j) s.toks) { s with toks := s.toks + 1 } → wpAny (model X.prog X.w) X.A (f (.int i t) (.int j u)) Q E s) :
    OpR X f (rI C fun i j => .int (g i j)) := by
  intro pins s σ H x y v u Q I rx ry h
  obtain ⟨i, j, rfl, rfl, hc, q⟩ := h
  obtain ⟨t, rfl⟩ := rx
  obtain ⟨t', rfl⟩ := ry
  exact rule i j t t' s _ _ hc ⟨.int (g i j), H, I.tok _, ⟨_, rfl⟩, q⟩
theorem opI0 {f : Value → Value → Sem Value} {g : Int → Int → Int}
    (rule : ∀ (i j : Int) (t u : Tok) (s : Shared) (Q : Value → Shared → Prop) (E : Value → Shared → Prop), Q (.int (g i j) s.toks) { s with toks := s.toks + 1 } → wpAny (model X.prog X.w) X.A (f (.int i t) (.int j u)) Q E s) :
    OpR X f (rI0 fun i j => .int (g i j)) := by
  intro pins s σ H x y v u Q I rx ry h
  obtain ⟨i, j, rfl, rfl, q⟩ := h
  obtain ⟨t, rfl⟩ := rx
  obtain ⟨t', rfl⟩ := ry
  exact rule i j t t' s _ _ ⟨.int (g i j), H, I.tok _, ⟨_, rfl⟩, q⟩
theorem opB0 {f : Value → Value → Sem Value} {g : Int → Int → Bool}
    (rule : ∀ (i j : Int) (t u : Tok) (s : Shared) (Q : Value → Shared → Prop) (E : Value → Shared → Prop), Q (.bool (g i j)) s → wpAny (model X.prog X.w) X.A (f (.int i t) (.int j u)) Q E s) :
    OpR X f (rI0 fun i j => .bl (g i j)) := by
  intro pins s σ H x y v u Q I rx ry h
  obtain ⟨i, j, rfl, rfl, q⟩ := h
  obtain ⟨t, rfl⟩ := rx
  obtain ⟨t', rfl⟩ := ry
  exact rule i j t t' s _ _ ⟨.bl (g i j), H, I, rfl, q⟩
def CPow (i j : Int) : Prop := 0 ≤ j ∧ j ≤ 1000000 ∧ i.natAbs < 2 ^ 64
def CMul (i j : Int) : Prop := (-(2 ^ 64) < i ∧ i < 2 ^ 64) ∨ (-(2 ^ 64) < j ∧ j < 2 ^ 64)
theorem CMul.ok {i j : Int} (h : CMul i j) : IntMulOk i j := by
  rcases h with ⟨h1, h2⟩ | ⟨h1, h2⟩
  · exact .of_left (intBits_le_64 h1 h2)
  · exact .of_right (intBits_le_64 h1 h2)
theorem two_pow_nn (k : Nat) : (0 : Int) ≤ 2 ^ k := by
  rw [two_pow_cast]
  exact Int.natCast_nonneg _

theorem op_add : OpR X (binaryOp .Add) (rI0 fun i j => .int (i + j)) := opI0 fun _ _ _ _ _ _ _ q => add_int q
theorem op_sub : OpR X (binaryOp .Sub) (rI0 fun i j => .int (i - j)) := opI0 fun _ _ _ _ _ _ _ q => sub_int q
theorem op_mul : OpR X (binaryOp .Mult) (rI CMul fun i j => .int (i * j)) := opI fun _ _ _ _ _ _ _ hc q => mul_int q hc.ok
/-- % by a positive divisor of any size -/
theorem op_mod : OpR X (binaryOp .Mod) (rI (fun _ j => 0 < j) fun i j => .int (i % j)) := opI fun i j _ _ _ _ _ hc q => by
  have h1 : (0 : Int) < j := hc
  exact mod_int' (by omega) (by rw [Int.fmod_eq_emod_of_nonneg i (by omega)]; exact q)
theorem op_shl : OpR X (binaryOp .LShift) (rI CPow fun i j => .int (i * 2 ^ j.toNat)) := opI fun _ _ _ _ _ _ _ hc q => lshift_int_small hc.1 hc.2.1 hc.2.2 q
theorem op_shr : OpR X (binaryOp .RShift) (rI (fun _ j => 0 ≤ j) fun i j => .int (i / 2 ^ j.toNat)) := opI fun i j _ _ _ _ _ hc q =>
  rshift_int hc (by rw [Int.fdiv_eq_ediv_of_nonneg i (two_pow_nn _)]; exact q)
theorem op_and : OpR X (binaryOp .BitAnd) (rI0 fun i j => .int (Builtin.bitAnd i j)) := opI0 fun _ _ _ _ _ _ _ q => and_int q
theorem op_or : OpR X (binaryOp .BitOr) (rI0 fun i j => .int (Builtin.bitOr i j)) := opI0 fun _ _ _ _ _ _ _ q => or_int q
theorem unI {f : Value → Sem Value} {g : Int → Int}
    (rule : ∀ (i : Int) (t : Tok) (s : Shared) (Q : Value → Shared → Prop) (E : Value → Shared → Prop), Q (.int (g i) s.toks) { s with toks := s.toks + 1 } → wpAny (model X.prog X.w) X.A (f (.int i t)) Q E s) :
    UnR X f (rU fun i => .int (g i)) := by
  intro pins s σ H x v Q I rx h
  obtain ⟨i, rfl, q⟩ := h
  obtain ⟨t, rfl⟩ := rx
  exact rule i t s _ _ ⟨.int (g i), H, I.tok _, ⟨_, rfl⟩, q⟩
theorem un_neg : UnR X (unaryOp .USub) (rU fun i => .int (-i)) := unI fun _ _ _ _ _ q => neg_int q
/-! ### bools among ints: n += (a < b) -/
end

/-! ### comparisons -/
/-- the scalars that == tells apart as data does -/
def scal : V → V → Bool
  | .non, .non => true | .non, .int _ => true | .int _, .non => true | .non, .bl _ => true | .bl _, .non => true | .non, .str _ => true | .str _, .non => true
  | .int _, .int _ => true | .bl _, .bl _ => true | .str _, .str _ => true | .byt _, .byt _ => true
  | .int _, .str _ => true | .str _, .int _ => true | .bl _, .str _ => true | .str _, .bl _ => true
  | _, _ => false
def rEq : R2 := fun x y H Q => scal x y = true ∧ Q (.bl (decide (x = y))) H
def rNe : R2 := fun x y H Q => scal x y = true ∧ Q (.bl (!decide (x = y))) H

theorem dec_int {i j : Int} : decide (V.int i = V.int j) = (i == j) := by
  rw [Bool.eq_iff_iff]
  simp
theorem dec_bl {i j : Bool} : decide (V.bl i = V.bl j) = (i == j) := by
  rw [Bool.eq_iff_iff]
  simp
theorem dec_str {i j : Str} : decide (V.str i = V.str j) = (i == j) := by
  rw [Bool.eq_iff_iff]
  simp
theorem dec_byt {i j : Array UInt8} : decide (V.byt i = V.byt j) = (i.toList == j.toList) := by
  rw [Bool.eq_iff_iff]
  cases i
  cases j
  simp

section
variable {X : Cx} {a b c : Expr} {ta tb tc : TE} {pos : Pos}
theorem fin_bl {pins : List (Addr × Obj)} {σ : St} {H : Hp} {s : Shared} {Q : VK} {k k' : Bool} (I : Inv X pins σ H s) (q : Q (.bl k) H) (e : k = k') : EP X pins σ Q (.bool k') s := by
  subst e
  exact ⟨.bl k, H, I, rfl, q⟩
theorem op_eq : OpR X (compareOp .Eq) rEq := by
  intro pins s σ H x y v u Q I rx ry h
  obtain ⟨hs, q⟩ := h
  cases x with
  | non =>
    cases rx
    cases y with
    | non => cases ry; exact PySem.EqNone.eq_none_none (fin_bl I q (by simp))
    | bl j => cases ry; exact PySem.EqNone.eq_none_bool (fin_bl I q (by simp))
    | int j => obtain ⟨t', rfl⟩ := ry; exact PySem.EqNone.eq_none_int (fin_bl I q (by simp))
    | str j => obtain ⟨t', rfl⟩ := ry; exact PySem.EqNone.eq_none_str (fin_bl I q (by simp))
    | _ => exact absurd (show false = true from hs) Bool.false_ne_true
  | bl i =>
    cases rx
    cases y with
    | non => cases ry; exact PySem.EqNone.eq_bool_none (fin_bl I q (by simp))
    | bl j => cases ry; exact eq_bool (fin_bl I q dec_bl)
    | str j => obtain ⟨t', rfl⟩ := ry; exact PySem.EqMixed.eq_bool_str (fin_bl I q (by simp))
    | _ => exact absurd (show false = true from hs) Bool.false_ne_true
  | int i =>
    obtain ⟨t, rfl⟩ := rx
    cases y with
    | non => cases ry; exact PySem.EqNone.eq_int_none (fin_bl I q (by simp))
    | int j => obtain ⟨t', rfl⟩ := ry; exact eq_int (fin_bl I q dec_int)
    | str j => obtain ⟨t', rfl⟩ := ry; exact PySem.EqMixed.eq_int_str (fin_bl I q (by simp))
    | _ => exact absurd (show false = true from hs) Bool.false_ne_true
  | str i =>
    obtain ⟨t, rfl⟩ := rx
    cases y with
    | non => cases ry; exact PySem.EqNone.eq_str_none (fin_bl I q (by simp))
    | bl j => cases ry; exact PySem.EqMixed.eq_str_bool (fin_bl I q (by simp))
    | int j => obtain ⟨t', rfl⟩ := ry; exact PySem.EqMixed.eq_str_int (fin_bl I q (by simp))
    | str j => obtain ⟨t', rfl⟩ := ry; exact eq_str (fin_bl I q dec_str)
    | _ => exact absurd (show false = true from hs) Bool.false_ne_true
  | byt i =>
    obtain ⟨t, rfl⟩ := rx
    cases y with
    | byt j => obtain ⟨t', rfl⟩ := ry; exact PySem.W.eq_bytes (fin_bl I q dec_byt)
    | _ => exact absurd (show false = true from hs) Bool.false_ne_true
  | _ => cases y <;> exact absurd (show false = true from hs) Bool.false_ne_true
theorem op_ne : OpR X (compareOp .NotEq) rNe := by
  intro pins s σ H x y v u Q I rx ry h
  obtain ⟨hs, q⟩ := h
  cases x with
  | non =>
    cases rx
    cases y with
    | non => cases ry; exact PySem.EqNone.ne_none_none (fin_bl I q (by simp))
    | bl j => cases ry; exact PySem.EqNone.ne_none_bool (fin_bl I q (by simp))
    | int j => obtain ⟨t', rfl⟩ := ry; exact PySem.EqNone.ne_none_int (fin_bl I q (by simp))
    | str j => obtain ⟨t', rfl⟩ := ry; exact PySem.EqNone.ne_none_str (fin_bl I q (by simp))
    | _ => exact absurd (show false = true from hs) Bool.false_ne_true
  | bl i =>
    cases rx
    cases y with
    | non => cases ry; exact PySem.EqNone.ne_bool_none (fin_bl I q (by simp))
    | bl j => cases ry; exact ne_bool (fin_bl I q (congrArg not dec_bl))
    | str j => obtain ⟨t', rfl⟩ := ry; exact PySem.EqMixed.ne_bool_str (fin_bl I q (by simp))
    | _ => exact absurd (show false = true from hs) Bool.false_ne_true
  | int i =>
    obtain ⟨t, rfl⟩ := rx
    cases y with
    | non => cases ry; exact PySem.EqNone.ne_int_none (fin_bl I q (by simp))
    | int j => obtain ⟨t', rfl⟩ := ry; exact ne_int (fin_bl I q (congrArg not dec_int))
    | str j => obtain ⟨t', rfl⟩ := ry; exact PySem.EqMixed.ne_int_str (fin_bl I q (by simp))
    | _ => exact absurd (show false = true from hs) Bool.false_ne_true
  | str i =>
    obtain ⟨t, rfl⟩ := rx
    cases y with
    | non => cases ry; exact PySem.EqNone.ne_str_none (fin_bl I q (by simp))
    | bl j => cases ry; exact PySem.EqMixed.ne_str_bool (fin_bl I q (by simp))
    | int j => obtain ⟨t', rfl⟩ := ry; exact PySem.EqMixed.ne_str_int (fin_bl I q (by simp))
    | str j => obtain ⟨t', rfl⟩ := ry; exact ne_str (fin_bl I q (congrArg not dec_str))
    | _ => exact absurd (show false = true from hs) Bool.false_ne_true
  | byt i =>
    obtain ⟨t, rfl⟩ := rx
    cases y with
    | byt j => obtain ⟨t', rfl⟩ := ry; exact PySem.W.ne_bytes (fin_bl I q (congrArg not dec_byt))
    | _ => exact absurd (show false = true from hs) Bool.false_ne_true
  | _ => cases y <;> exact absurd (show false = true from hs) Bool.false_ne_true

theorem op_lt : OpR X (compareOp .Lt) (rI0 fun i j => .bl (decide (i < j))) := opB0 fun _ _ _ _ _ _ _ q => lt_int q
theorem op_le : OpR X (compareOp .LtE) (rI0 fun i j => .bl (decide (i ≤ j))) := opB0 fun _ _ _ _ _ _ _ q => le_int q
theorem op_gt : OpR X (compareOp .Gt) (rI0 fun i j => .bl (decide (j < i))) := opB0 fun _ _ _ _ _ _ _ q => gt_int q
theorem op_ge : OpR X (compareOp .GtE) (rI0 fun i j => .bl (decide (j ≤ i))) := opB0 fun _ _ _ _ _ _ _ q => ge_int q
theorem nomark (b : Expr) {op : CmpOp} (h : op ≠ .In := by decide) (h2 : op ≠ .NotIn := by decide) : behindInMarks op b = false := by
  have e1 : (op == CmpOp.In) = false := by cases op <;> first | rfl | exact absurd rfl h
  have e2 : (op == CmpOp.NotIn) = false := by cases op <;> first | rfl | exact absurd rfl h2
  cases b <;> simp [behindInMarks, e1, e2]
/-- a comparison as a value; hm: nomark b, or (for in, not in) by with_unfolding_all rfl -/
theorem pe_cmpR {op : CmpOp} {r : R2} (ho : OpR X (compareOp op) r) (ha : PE X a ta) (hb : PE X b tb) (hm : behindInMarks op b = false) : PE X (.Compare a [op] [b] pos) (tOp r ta tb) := by
  intro pins s σ H Q I h
  exact wpAny_Compare1 (binT ha hb I h fun v u s2 x y H2 I2 rx ry q => ho pins s2 σ H2 x y v u Q I2 rx ry q) hm
/-- a reading of a value as a test -/
def tTest (t : TE) : TT := fun σ H Q => t σ H fun x H' => ∃ k, x = .bl k ∧ Q k H'
theorem pt_cmpR {op : CmpOp} {r : R2} (ho : OpR X (compareOp op) r) (ha : PE X a ta) (hb : PE X b tb) (hm : behindInMarks op b = false) : PT X (.Compare a [op] [b] pos) (tTest (tOp r ta tb)) := by
  intro pins s σ H Q I h
  refine wpAny_isTrue_Compare1 (thn (ha pins s σ H _ I h) fun v s1 ⟨x, H1, I1, r1, q1⟩ => thn (hb pins s1 σ H1 _ I1 q1) fun u s2 ⟨y, H2, I2, r2, q2⟩ =>
    thn (ho pins s2 σ H2 x y v u _ I2 r1 r2 q2) fun c s3 ⟨z, H3, I3, r3, k, e, q3⟩ => ?_) hm
  subst e
  cases r3
  exact wpAny_truthy_bool ⟨H3, I3, q3⟩
/-- a op1 b op2 c -/
def tChain (r r' : R2) (ta tb tc : TE) : TE := fun σ H Q => ta σ H fun x H1 => tb σ H1 fun y H2 => r x y H2 fun z H3 => ∃ k, z = .bl k ∧
  (if k = true then tc σ H3 fun w' H4 => r' y w' H4 Q else Q (.bl false) H3)
theorem pe_chain {op op' : CmpOp} {r r' : R2} (ho : OpR X (compareOp op) r) (ho' : OpR X (compareOp op') r') (ha : PE X a ta) (hb : PE X b tb) (hc : PE X c tc)
    (hm : lastMarks [op, op'] [b, c] = false := by with_unfolding_all rfl) : PE X (.Compare a [op, op'] [b, c] pos) (tChain r r' ta tb tc) := by
  intro pins s σ H Q I h
  refine Compare_chain (thn (ha pins s σ H _ I h) fun v s1 ⟨x, H1, I1, r1, q1⟩ => chain_link (thn (hb pins s1 σ H1 _ I1 q1) fun u s2 ⟨y, H2, I2, r2, q2⟩ =>
    thn (ho pins s2 σ H2 x y v u _ I2 r1 r2 q2) fun d s3 ⟨z, H3, I3, r3, k, e, q3⟩ => ?_)) hm
  subst e
  cases r3
  refine wpAny_truthy_bool ?_
  cases k with
  | false => exact ite_ff ⟨.bl false, H3, I3, rfl, q3⟩
  | true => exact ite_tt (chain_last (thn (hc pins s3 σ H3 _ I3 q3) fun w' s4 ⟨z', H4, I4, r4, q4⟩ => ho' pins s4 σ H4 y z' u w' Q I4 r2 r4 q4))
/-! ### truth -/
theorem line63 : (sizeLine : Nat) < 2 ^ 63 := by rw [sizeLine_eq]; decide
/-! ### strs and bytes -/
/-! ### scalar builtins, by CallR -/
theorem vals1 {x : V} {us : List Value} (r : Vals [x] us) : ∃ u, us = [u] ∧ RelV x u := by
  cases r with
  | cons r1 r2 => cases r2; exact ⟨_, rfl, r1⟩
theorem vals2 {x y : V} {us : List Value} (r : Vals [x, y] us) : ∃ u w', us = [u, w'] ∧ RelV x u ∧ RelV y w' := by
  cases r with
  | cons r1 r2 =>
    cases r2 with
    | cons r3 r4 => cases r4; exact ⟨_, _, rfl, r1, r3⟩
theorem call_max2 (hc : X.calm = true) : CallR X (.builtin "max") (fun xs H Q => ∃ i j, xs = [.int i, .int j] ∧ Q (.int (if j > i then j else i)) H) := by
  intro pins s σ H xs us Q I r h
  obtain ⟨i, j, rfl, q⟩ := h
  obtain ⟨u, w', rfl, ⟨t, rfl⟩, ⟨t', rfl⟩⟩ := vals2 r
  refine max_two_ints (I.ok.hd hc) fun h' tk k => ⟨_, H, I.kept k, ?_, q⟩
  by_cases hj : j > i
  · rw [if_pos hj, if_pos hj]; exact ⟨_, rfl⟩
  · rw [if_neg hj, if_neg hj]; exact ⟨_, rfl⟩
theorem call_min2 (hc : X.calm = true) : CallR X (.builtin "min") (fun xs H Q => ∃ i j, xs = [.int i, .int j] ∧ Q (.int (if j < i then j else i)) H) := by
  intro pins s σ H xs us Q I r h
  obtain ⟨i, j, rfl, q⟩ := h
  obtain ⟨u, w', rfl, ⟨t, rfl⟩, ⟨t', rfl⟩⟩ := vals2 r
  refine min_two_ints (I.ok.hd hc) fun h' tk k => ⟨_, H, I.kept k, ?_, q⟩
  by_cases hj : j < i
  · rw [if_pos hj, if_pos hj]; exact ⟨_, rfl⟩
  · rw [if_neg hj, if_neg hj]; exact ⟨_, rfl⟩
end
end L2

namespace L2
open PySem PySem.Spec PyProof.Rows

/-! ### an instance, its attributes a map -/
structure ObjM (h : Heap) (x dx C : Addr) (mA : Str → Option Value) : Prop where
  obj : h.get? x = some (PySem.W.instObj C dx)
  ns : h.Ns1 dx mA
  ne : dx ≠ x

theorem lookIn_ns {h : Heap} {dx : Addr} {mA : Str → Option Value} (n : h.Ns1 dx mA) : ∃ od, h.get? dx = some od ∧ ∀ name, PySem.W.lookIn name od = some (mA name) := by
  obtain ⟨o, es, ep, ho, hd, hk, _, hm⟩ := n
  refine ⟨o, ho, fun name => ?_⟩
  have e := hm name
  unfold nsFind findBy at e
  rw [← Array.find?_toList] at e
  unfold PySem.W.lookIn
  rw [hd]
  dsimp only
  split
  · rename_i y q
    rw [q] at e
    exact congrArg some e
  · rename_i q
    rw [q] at e
    have a : es.toList.any (·.refKey) = false := by
      rw [List.any_eq_false]
      intro y hy
      obtain ⟨z, t, hkey⟩ := hk y (Array.mem_toList_iff.mp hy)
      simp [DictEntry.refKey, hkey]
    have a' : ¬ es.toList.any (·.refKey) = true := by rw [a]; exact Bool.false_ne_true
    rw [if_neg a']
    exact congrArg some e

theorem ObjM.look {h : Heap} {x dx C : Addr} {mA : Str → Option Value} (I : ObjM h x dx C mA) : ∃ od, PySem.W.InstAt h x (PySem.W.instObj C dx) C (some od) ∧ ∀ name, PySem.W.lookIn name od = some (mA name) :=
  let ⟨od, ho, hl⟩ := lookIn_ns I.ns
  ⟨od, ⟨I.obj, rfl, rfl, ho⟩, hl⟩

section
variable {prog : Program} {w : World} {A : Around} {E : Value → Shared → Prop} {s : Shared} {K : PySem.W.Frag} {x dx C f : Addr} {mA : Str → Option Value} {name : Str} {v : Value}

theorem get_map {expr : Bool} {Q : Value → Shared → Prop} (X : K.In s.heap) (I : ObjM s.heap x dx C mA) (hg : PySem.W.plainGet K C name = true) (hh : PySem.W.hasDictIn K C = true)
    (ha : PySem.W.findIn K (.ref C) name = some none) (hv : mA name = some v) (hv' : PySem.W.handedIn v = true) (h : Q v { s with toks := s.toks + 1 }) :
    wpAny (model prog w) A (getAttr (.ref x) name expr) Q E s := by
  obtain ⟨od, J, hl⟩ := I.look
  exact PySem.W.get_value X J (PySem.W.plainGet_of hg).1 (PySem.W.findObj_own hh ha rfl (by rw [hl, hv])) hv' h
theorem get_meth {pl : Sem Bool} {Q : Value × List Value → Shared → Prop} (X : K.In s.heap) (I : ObjM s.heap x dx C mA) (hg : PySem.W.plainGet K C name = true)
    (hf : PySem.W.findIn K (.ref C) name = some (some (.ref f))) (ht : PySem.W.isFn K (.ref f) = true) (hv : mA name = none) (h : Q (.ref f, [.ref x]) s) :
    wpAny (model prog w) A (getMethod (.ref x) name pl) Q E s := by
  obtain ⟨od, J, hl⟩ := I.look
  exact PySem.W.method_fn X J (PySem.W.plainGet_of hg).1 (PySem.W.plainGet_of hg).2 hf (beq_iff_eq.mp ht) (by show (PySem.W.lookIn name od).map (·.isSome) = some false; rw [hl, hv]; rfl) h

theorem set_map {ns : List Str} {Q : Unit → Shared → Prop} (X : K.In s.heap) (I : ObjM s.heap x dx C mA)
    (hs : PySem.W.findIn K (.ref C) "__setattr__" = some (some (.builtin "object.__setattr__"))) (hp : PySem.W.plainOver K C = true) (ht : PySem.W.takerIn K C name = some none) (hh : PySem.W.hasDictIn K C = true)
    (hw : PySem.Within mA ns) (hsz : ns.length ≤ sizeLine)
    (h : ∀ h', ObjM h' x dx C (fun y => if y = name then some v else mA y) → Heap.SameBut dx s.heap h' → Q () { s with heap := h', toks := s.toks + 2 }) :
    wpAny (model prog w) A (setAttr (.ref x) name v) Q E s := by
  obtain ⟨od, J, hl⟩ := I.look
  refine PySem.W.set_plain X J hs (PySem.W.osa_open (s := { s with toks := s.toks + 1 }) (r := none) X J hp ht fun b => ?_)
  obtain ⟨cd, hc, hd'⟩ := PySem.W.any_some hh
  have hx : s.heap.get? x = some ⟨.ref C, some dx, .plain, #[]⟩ := I.obj
  refine wpAny_bind (wpAny_pure (wpAny_bind (wpAny_bind (wpAny_loadPart hx (wpAny_bind (PySem.W.Looks.here (s := { s with toks := s.toks + 1 }) (PySem.W.looks_clsIn X hc) ?_))))))
  rw [hd']
  refine wpAny_pure (a := some dx) (wpAny_bind (wpAny_pure (wpAny_bind ?_)))
  refine wpAny_nsSet1 (s := { s with toks := s.toks + 1 }) I.ns fun h' hn2 hs2 => ?_
  obtain ⟨oD, esD, epD, hoD, hdD, hcD⟩ := hn2.count (PySem.Within.cons name v hw)
  refine wpAny_bind (wpAny_lookBehind hoD (by rw [hdD]; exact pastItsLine_dict (Nat.le_trans hcD (by rw [List.length_cons]; omega))) ?_)
  exact wpAny_pure (h _ ⟨(hs2.2 _ (Ne.symm I.ne)).trans I.obj, hn2, I.ne⟩ hs2)

/-- C(..): the dict at the heap's end, the instance behind it; then its __init__ -/
theorem make_map {R : Result → Shared → Prop} {vs : List Value} {kw : List (Str × Value)} (X : K.In s.heap) (hm : PySem.W.makesIn K C = true)
    (hi : PySem.W.findIn K (.ref C) "__init__" = some (some (.ref f))) (hf : PySem.W.typeIn K (.ref f) = some (.type "function"))
    (h : codeAny (model prog w) (A.under (.builtin "type.__call__" ⟨.ref C :: vs, kw⟩)) (.call (.ref f) ⟨.ref (s.heap.objs.size + 1) :: vs, kw⟩) (PySem.W.InitBack (s.heap.objs.size + 1) R)
      { s with heap := (s.heap.push PySem.W.emptyDict).push (PySem.W.instObj C s.heap.objs.size) }) :
    codeAny (model prog w) A (.call (.ref C) ⟨vs, kw⟩) R s := by
  obtain ⟨hh, g, d, t, os⟩ := s
  exact PySem.W.make_core (PySem.W.makes_of X hm) (PySem.W.looks_findIn X hi) (fun self => PySem.W.bind_fn X self hf) (.inl rfl) h
end

/-! ### the attributes as a list of pairs -/
def putF (f : Str) (v : V) : List (Str × V) → List (Str × V)
  | [] => [(f, v)]
  | (g, x) :: r => if g = f then (g, v) :: r else (g, x) :: putF f v r
theorem lookup_putF (f g : Str) (v : V) : ∀ fs : List (Str × V), (putF f v fs).lookup g = if g = f then some v else fs.lookup g
  | [] => by
    show List.lookup g [(f, v)] = _
    by_cases h : g = f
    · have hb : (g == f) = true := beq_iff_eq.mpr h
      simp only [List.lookup, hb, if_pos h]
    · have hb : (g == f) = false := beq_eq_false_iff_ne.mpr h
      simp only [List.lookup, hb, if_neg h]
  | (k, x) :: r => by
    have ih := lookup_putF f g v r
    rw [show putF f v ((k, x) :: r) = (if k = f then (k, v) :: r else (k, x) :: putF f v r) from rfl]
    by_cases hk : k = f
    · rw [if_pos hk]
      by_cases h : g = k
      · have hb : (g == k) = true := beq_iff_eq.mpr h
        simp only [List.lookup, hb, if_pos (h.trans hk)]
      · have hb : (g == k) = false := beq_eq_false_iff_ne.mpr h
        simp only [List.lookup, hb, if_neg (fun e : g = f => h (e.trans hk.symm))]
    · rw [if_neg hk]
      by_cases h : g = k
      · have hb : (g == k) = true := beq_iff_eq.mpr h
        simp only [List.lookup, hb, if_neg (fun e : g = f => hk (h.symm.trans e))]
      · have hb : (g == k) = false := beq_eq_false_iff_ne.mpr h
        simp only [List.lookup, hb]
        exact ih
theorem keys_putF (f : Str) (v : V) : ∀ fs : List (Str × V), f ∈ (putF f v fs).map (·.1) ∧ ∀ g, g ∈ fs.map (·.1) → g ∈ (putF f v fs).map (·.1)
  | [] => ⟨by simp [putF], fun g h => by simp at h⟩
  | (k, x) :: r => by
    obtain ⟨i1, i2⟩ := keys_putF f v r
    rw [show putF f v ((k, x) :: r) = (if k = f then (k, v) :: r else (k, x) :: putF f v r) from rfl]
    by_cases hk : k = f
    · rw [if_pos hk]
      subst hk
      exact ⟨by simp, fun g h => by simpa using h⟩
    · rw [if_neg hk]
      refine ⟨?_, fun g h => ?_⟩
      · rw [List.map_cons]
        exact List.mem_cons_of_mem _ i1
      · rw [List.map_cons] at h ⊢
        rcases List.mem_cons.mp h with e | e
        · exact List.mem_cons.mpr (.inl e)
        · exact List.mem_cons_of_mem _ (i2 g e)
theorem length_putF (f : Str) (v : V) : ∀ fs : List (Str × V), (putF f v fs).length ≤ fs.length + 1
  | [] => by simp [putF]
  | (k, x) :: r => by
    have ih := length_putF f v r
    rw [show putF f v ((k, x) :: r) = (if k = f then (k, v) :: r else (k, x) :: putF f v r) from rfl]
    by_cases hk : k = f
    · rw [if_pos hk, List.length_cons, List.length_cons]; omega
    · rw [if_neg hk, List.length_cons, List.length_cons]; omega

theorem RelO.some_of {v : V} {o : Option Value} (r : RelO (some v) o) : ∃ u, o = some u ∧ RelV v u := by
  cases o with
  | none => exact (show False from r).elim
  | some u => exact ⟨u, rfl, r⟩
theorem RelO.none_of {o : Option Value} (r : RelO none o) : o = none := by
  cases o with
  | none => rfl
  | some u => exact (show False from r).elim
theorem handed_of {v : V} {u : Value} (r : RelV v u) : PySem.W.handedIn u = true := by
  cases v with
  | non => cases (show u = Value.none from r); rfl
  | bl b => cases (show u = Value.bool b from r); rfl
  | int i => obtain ⟨t, e⟩ := (show ∃ t, u = Value.int i t from r); cases e; rfl
  | str x => obtain ⟨t, e⟩ := (show ∃ t, u = Value.str x t from r); cases e; rfl
  | byt b => obtain ⟨t, e⟩ := (show ∃ t, u = Value.bytes b t from r); cases e; rfl
  | flt b => obtain ⟨t, e⟩ := (show ∃ t, u = Value.float b t from r); cases e; rfl
  | ref a => cases (show u = Value.ref a from r); rfl
  | ty n => cases (show u = Value.type n from r); rfl

section
variable {P : Program} {w : World} {H H' : Hp} {h h' : Heap} {a C dx : Addr} {fs fs' : List (Str × V)}
theorem ins_get (hok : HOk P w H h) (e : H a = some (.ins C dx fs)) : ∃ mA, ObjM h a dx C mA ∧ (∀ f, RelO (fs.lookup f) (mA f)) ∧ PySem.Within mA (fs.map (·.1)) ∧ fs.length ≤ 1000 ∧ H dx = some (.own a) := by
  obtain ⟨d, z, ne, ob, mA, n, r, q⟩ := (show ObjOk P w H h a (.ins C dx fs) from hok a _ e)
  exact ⟨mA, ⟨ob, n, ne⟩, r, q, z, d⟩
end

/-! ### what of the text a class must have -/
structure Cls (K : PySem.W.Frag) (C : Addr) : Prop where
  pg : PySem.W.plainGet K C Str.empty = true
  hd : PySem.W.hasDictIn K C = true
  po : PySem.W.plainOver K C = true
  sa : PySem.W.findIn K (.ref C) "__setattr__" = some (some (.builtin "object.__setattr__"))
theorem Cls.get {K : PySem.W.Frag} {C : Addr} (c : Cls K C) (f : Str) : PySem.W.plainGet K C f = true := c.pg
/-- no class of it has the name -/
def NoAttr (K : PySem.W.Frag) (C : Addr) (f : Str) : Prop := PySem.W.findIn K (.ref C) f = some none
theorem NoAttr.taker {K : PySem.W.Frag} {C : Addr} {f : Str} (n : NoAttr K C f) : PySem.W.takerIn K C f = some none := by
  unfold PySem.W.takerIn
  rw [show PySem.W.findIn K (.ref C) f = some none from n]
  rfl
/-- a method: a plain def of the class or of one above it -/
structure Meth (K : PySem.W.Frag) (C : Addr) (m : Str) (f : Addr) : Prop where
  at_ : PySem.W.findIn K (.ref C) m = some (some (.ref f))
  fn : PySem.W.isFn K (.ref f) = true
  kp : PySem.W.keepIn K (.ref f) = true

section
variable {X : Cx} {pins : List (Addr × Obj)} {σ : St} {H : Hp} {s : Shared} {a C dx : Addr} {fs : List (Str × V)} {f : Str} {v : V} {A : Around} {E : Value → Shared → Prop}

theorem getattr_ok {b : Bool} {Q : Value → Shared → Prop} (I : Inv X pins σ H s) (e : H a = some (.ins C dx fs)) (c : Cls X.K C) (n : NoAttr X.K C f) (l : fs.lookup f = some v)
    (h : ∀ u s', Inv X pins σ H s' → RelV v u → Q u s') : wpAny (model X.prog X.w) A (getAttr (.ref a) f b) Q E s := by
  obtain ⟨mA, O, r, _, _, _⟩ := ins_get I.hok e
  obtain ⟨u, hu, ru⟩ := RelO.some_of (v := v) (o := mA f) (by rw [← l]; exact r f)
  exact get_map I.kIn O (c.get f) c.hd n hu (handed_of ru) (h u _ (I.tok _) ru)
theorem getmeth_ok {m : Str} {g : Addr} {pl : Sem Bool} {Q : Value × List Value → Shared → Prop} (I : Inv X pins σ H s) (e : H a = some (.ins C dx fs)) (c : Cls X.K C) (k : Meth X.K C m g) (l : fs.lookup m = none)
    (h : Q (.ref g, [.ref a]) s) : wpAny (model X.prog X.w) A (getMethod (.ref a) m pl) Q E s := by
  obtain ⟨mA, O, r, _, _, _⟩ := ins_get I.hok e
  have hn : mA m = none := RelO.none_of (by rw [← l]; exact r m)
  exact get_meth I.kIn O (c.get m) k.at_ k.fn hn h

theorem setattr_ok {y : V} {u : Value} {Q : Unit → Shared → Prop} (I : Inv X pins σ H s) (e : H a = some (.ins C dx fs)) (c : Cls X.K C) (n : NoAttr X.K C f) (hl : fs.length < 1000) (ry : RelV y u)
    (h : ∀ s', Inv X pins σ (upd H a (.ins C dx (putF f y fs))) s' → Q () s') : wpAny (model X.prog X.w) A (setAttr (.ref a) f u) Q E s := by
  obtain ⟨mA, O, r, wi, _, ho⟩ := ins_get I.hok e
  have hz : (fs.map (·.1)).length ≤ sizeLine := by rw [List.length_map, sizeLine_eq]; omega
  refine set_map I.kIn O c.sa c.po n.taker c.hd wi hz fun h' O' sb => h _ ?_
  have hd : ∃ o, h'.get? dx = some o := let ⟨o, _, _, e', _⟩ := O'.ns; ⟨o, e'⟩
  refine I.write (x := a) (e := dx) (by rw [e]; exact True.intro) (.inr ho) (fun b q hb z => (sb.2 b hb).trans z) hd ?_
  refine ⟨by rw [upd_ne O.ne]; exact ho, ?_, O.ne, O'.obj, _, O'.ns, fun g => ?_, fun g hg => ?_⟩
  · have := length_putF f y fs; omega
  · show RelO ((putF f y fs).lookup g) (if g = f then some u else mA g)
    rw [lookup_putF]
    by_cases q : g = f
    · rw [if_pos q, if_pos q]; exact ry
    · rw [if_neg q, if_neg q]; exact r g
  · by_cases q : g = f
    · rw [q]; exact (keys_putF f y fs).1
    · refine (keys_putF f y fs).2 g (wi g fun z => hg ?_)
      show (if g = f then some u else mA g) = none
      rw [if_neg q]; exact z

/-- a new instance, tracked, without attributes -/
theorem Inv.made (I : Inv X pins σ H s) : Inv X pins σ (upd (upd H s.heap.objs.size (.own (s.heap.objs.size + 1))) (s.heap.objs.size + 1) (.ins C s.heap.objs.size []))
    { s with heap := (s.heap.push PySem.W.emptyDict).push (PySem.W.instObj C s.heap.objs.size) } := by
  have e1 : (s.heap.push PySem.W.emptyDict).get? s.heap.objs.size = some PySem.W.emptyDict := Heap.get?_push_size s.heap rfl
  have e2 : ((s.heap.push PySem.W.emptyDict).push (PySem.W.instObj C s.heap.objs.size)).get? (s.heap.objs.size + 1) = some (PySem.W.instObj C s.heap.objs.size) := by
    have := Heap.get?_push_size (s.heap.push PySem.W.emptyDict) (o := PySem.W.instObj C s.heap.objs.size) rfl
    rwa [Heap.size_push] at this
  have e3 : (s.heap.push PySem.W.emptyDict).Ns s.heap.objs.size (fun _ => none) := ⟨PySem.W.emptyDict, #[], _, e1, rfl, (fun e he => absurd he (by simp)), fun _ => rfl⟩
  have I1 := I.laid (a := s.heap.objs.size) (o := .own (s.heap.objs.size + 1)) (h' := s.heap.push PySem.W.emptyDict) (t' := s.toks) (fun b u q => Heap.get?_push_of_some _ q) (Nat.le_refl _) ⟨_, e1⟩
  refine I1.laid (a := s.heap.objs.size + 1) (o := .ins C s.heap.objs.size []) (t' := s.toks) (fun b u q => Heap.get?_push_of_some _ q) (Nat.le_of_eq (Heap.size_push _ _)) ?_
  have ne : s.heap.objs.size ≠ s.heap.objs.size + 1 := Nat.ne_of_lt (Nat.lt_succ_self _)
  refine ⟨by rw [upd_ne ne, upd_same], Nat.zero_le _, ne, e2, fun _ => none, (Heap.Ns1.of_empty e3).at fun o q => Heap.get?_push_of_some _ q, fun _ => True.intro, fun y hy => absurd rfl hy⟩

/-- e.f where nothing but the object is asked: through attributeBase (super) and the last hold -/
theorem attr_of {prog : Program} {w : World} {env : Env} {e : Expr} {f : Str} {pos : Pos} {s : Shared} {Q : Value → Shared → Prop} (hb : attributeBase e f env (eval e env) = eval e env)
    (h : wpAny (model prog w) A (eval e env) (fun o s₁ => wpAny (model prog w) A (getAttr o f true) Q E s₁) E s) : wpAny (model prog w) A (eval (.Attribute e f pos) env) Q E s :=
  Attribute_any_ h (by rw [arm_eval_Attribute, hb])
end

/-! ### readings and rules -/
/-- e.f, an attribute of the instance -/
def tFld (K : PySem.W.Frag) (ta : TE) (f : Str) : TE := fun σ H Q => ta σ H fun x H1 => ∃ a C dx fs v, x = .ref a ∧ H1 a = some (.ins C dx fs) ∧ Cls K C ∧ NoAttr K C f ∧ fs.lookup f = some v ∧ Q v H1
/-- e.f = value -/
def sFld (K : PySem.W.Frag) (ta tv : TE) (f : Str) : TS := fun D σ H => tv σ H fun y H1 => ta σ H1 fun x H2 => ∃ a C dx fs, x = .ref a ∧ H2 a = some (.ins C dx fs) ∧ Cls K C ∧ NoAttr K C f ∧ fs.length < 1000 ∧
  D.nx σ (upd H2 a (.ins C dx (putF f y fs)))
section
variable {X : Cx} {o e value : Expr} {f : Str} {pos pos' tpos : Pos} {ta tv : TE}
theorem pe_fld (he : PE X e ta) (hb : attributeBase e f X.env (eval e X.env) = eval e X.env) : PE X (.Attribute e f pos) (tFld X.K ta f) := by
  intro pins s σ H Q I h
  refine attr_of hb (thn (he pins s σ H _ I h) fun u s1 ⟨x, H1, I1, rx, a, C, dx, fs, v, ex, ea, c, n, l, q⟩ => ?_)
  subst ex
  obtain rfl : u = Value.ref a := rx
  exact getattr_ok I1 ea c n l fun u' s2 I2 ru => ⟨v, H1, I2, ru, q⟩
theorem ps_fld (ha : PE X o ta) (hv : PE X value tv) (hs : swapsWith value (some (.Attribute o f pos')) pos.line X.env = pure false) : PS X (.Assign [.Attribute o f pos'] value pos) (sFld X.K ta tv f) := by
  intro pins s σ H D I h
  refine plainObj_wpAny_Assign_Attribute (thn (hv pins s σ H _ I h) fun u s1 ⟨y, H1, I1, ry, q⟩ => thn (ha pins s1 σ H1 _ I1 q) fun ov s2 ⟨x, H2, I2, rx, a, C, dx, fs, ex, ea, c, n, l, q2⟩ => ?_) hs
  subst ex
  obtain rfl : ov = Value.ref a := rx
  exact setattr_ok I2 ea c n l ry fun s3 I3 => ⟨σ, _, I3, q2⟩
end

/-! ### isinstance -/
section
variable {X : Cx} {pins : List (Addr × Obj)} {σ : St} {H : Hp} {s : Shared} {A : Around} {E : Value → Shared → Prop} {Q : Value → Shared → Prop} {c : Value} {b : Bool}
end
end L2

namespace L2
open PySem PySem.Spec PyProof.Rows

/-! ### room -/
structure Room (k : Nat) (A : Around) : Prop where
  hd : A.handled = none
  dp : A.depth + 3 * k + 5 < recursionLimit
  un : A.units + 16 * k + 200 < cLine
theorem Room.mono {j k : Nat} {A : Around} (r : Room k A) (h : j ≤ k) : Room j A := ⟨r.hd, by have := r.dp; omega, by have := r.un; omega⟩
theorem Room.deeper {k : Nat} {A : Around} (r : Room (k + 1) A) (env : Env) : Room k (A.deeper env) :=
  ⟨r.hd, by have := r.dp; show A.depth + 1 + 3 * k + 5 < _; omega, by have := r.un; show A.units + 3 + 16 * k + 200 < _; omega⟩
theorem make_depth {A : Around} {C : Addr} {us : List Value} {kw : List (Str × Value)} : (A.under (.builtin "type.__call__" ⟨.ref C :: us, kw⟩)).depth = A.depth + 1 := by
  first | rfl | simp [Around.under, Code.weight, Code.isCreation, Code.isGuard, Code.isCaller, Code.frames, Code.isFrame, guardIds]
theorem make_units {A : Around} {C : Addr} {us : List Value} {kw : List (Str × Value)} : (A.under (.builtin "type.__call__" ⟨.ref C :: us, kw⟩)).units = A.units + 1 := by
  first | rfl | simp [Around.under, Code.cUnits, Code.frames, Code.isFrame]
theorem Room.make {k : Nat} {A : Around} (r : Room (k + 1) A) (C : Addr) (us : List Value) (kw : List (Str × Value)) : Room k (A.under (.builtin "type.__call__" ⟨.ref C :: us, kw⟩)) :=
  ⟨r.hd, by have := r.dp; rw [make_depth]; omega, by have := r.un; rw [make_units]; omega⟩
theorem Room.depth {k : Nat} {A : Around} (r : Room k A) : A.depth < recursionLimit := by have := r.dp; omega
/-! ### argument lists and displays -/
def tNil : TA := fun _ H Q => Q [] H
def tCons (ta : TE) (tr : TA) : TA := fun σ H Q => ta σ H fun x H1 => tr σ H1 fun xs H2 => Q (x :: xs) H2
section
variable {X : Cx} {e : Expr} {es : List Expr} {te : TE} {t : TA} {pos : Pos}
theorem pa_nil : PA X [] tNil := fun _ _ _ _ H Q I h => Calls.spliced_nil ⟨[], H, I, .nil, h⟩
theorem pa_cons (ha : PE X e te) (hr : PA X es t) (hs : starEach (e :: es) X.env = (false, eval e X.env) :: starEach es X.env := by rfl) : PA X (e :: es) (tCons te t) := by
  intro pos pins s σ H Q I h
  rw [hs]
  show wpAny _ _ (spliced ((false, eval e X.env) :: backTo pos (starEach es X.env))) _ _ s
  refine Calls.spliced_cons (thn (ha pins s σ H _ I h) fun u s1 ⟨x, H1, I1, r1, q1⟩ => ?_)
  exact thn (hr pos pins s1 σ H1 _ I1 q1) fun us s2 ⟨xs, H2, I2, r2, q2⟩ => ⟨x :: xs, H2, I2, .cons r1 r2, q2⟩

/-- a tuple, a list of written items -/
def tTup (t : TA) : TE := fun σ H Q => t σ H fun xs H1 => xs.length ≤ sizeLine ∧ ∀ p, H1 p = none → Q (.ref p) (upd H1 p (.tup xs))
def tLst (t : TA) : TE := fun σ H Q => t σ H fun xs H1 => xs.length ≤ sizeLine ∧ ∀ p, H1 p = none → Q (.ref p) (upd H1 p (.lst xs))
theorem pe_tup {x1} (h : PA X es t) : PE X (.Tuple es x1 pos) (tTup t) := by
  intro pins s σ H Q I hq
  refine wpAny_Tuple_spliced (thn (h pos pins s σ H _ I hq) fun us s1 ⟨xs, H1, I1, r, z, q⟩ => ⟨by rw [← r.length]; exact z, ?_⟩)
  have hf : H1 s1.heap.objs.size = none := I1.hok.fresh (Nat.le_refl _)
  refine ⟨.ref s1.heap.objs.size, upd H1 s1.heap.objs.size (.tup xs), I1.laid (t' := s1.toks) (fun b u e => Heap.get?_push_of_some _ e) (Nat.le_refl _) ?_, rfl, q _ hf⟩
  exact ⟨z, us, r, ⟨_, Heap.get?_push_size _ rfl, rfl, _, rfl⟩⟩
theorem pe_lst (h : PA X es t) : PE X (.List es pos) (tLst t) := by
  intro pins s σ H Q I hq
  refine wpAny_List_spliced (thn (h pos pins s σ H _ I hq) fun us s1 ⟨xs, H1, I1, r, z, q⟩ => ⟨by rw [← r.length]; exact z, ?_⟩)
  have hf : H1 s1.heap.objs.size = none := I1.hok.fresh (Nat.le_refl _)
  refine ⟨.ref s1.heap.objs.size, upd H1 s1.heap.objs.size (.lst xs), I1.laid (t' := s1.toks) (fun b u e => Heap.get?_push_of_some _ e) (Nat.le_refl _) ?_, rfl, q _ hf⟩
  exact ⟨z, us, 0, r, Heap.get?_push_size _ rfl⟩
end

/-! ### what a def promises -/
/-- a def's promise: the bound arguments in the parameters' order, the heap, the wanted end, the wanted exception -/
abbrev Sp := List V → Hp → VK → XK → Prop
/-- how an exception lies behind a call (file 08 gives it): the callers' frames, abstract heap and state ahead of the call, the wish, the exception, the state -/
abbrev CXT := List Env → Hp → Shared → XK → Value → Shared → Prop

/-- the state at a call -/
structure Env0 (P : Program) (w : World) (K : PySem.W.Frag) (mg : Str → Option Value) (base : Heap) (A : Around) (outer : List Env) (s : Shared) (H : Hp) : Prop where
  frames : A.frames = some outer
  mod : Mod K mg base
  bs : ∀ b o, base.get? b = some o → s.heap.get? b = some o ∧ H b = none
  bsz : base.objs.size ≤ s.heap.objs.size
  funs : s.heap.FunFrames base outer
  frf : ∀ b ∈ frs outer, H b = none
  hok : HOk P w H s.heap
  bare : AllBare s.gens
/-- a call's end -/
def CE (outer : List Env) (P : Program) (w : World) (H : Hp) (s : Shared) (Q : VK) (u : Value) (s' : Shared) : Prop :=
  ∃ v H', s'.os = s.os ∧ AllBare s'.gens ∧ Un (frs outer) [] H H' s.heap s'.heap ∧ HOk P w H' s'.heap ∧ RelV v u ∧ Q v H'
def CR (CX : CXT) (outer : List Env) (P : Program) (w : World) (H : Hp) (s : Shared) (Q : VK) (E : XK) (r : Result) (s' : Shared) : Prop :=
  match r with
  | .ok (.ret u) => CE outer P w H s Q u s'
  | .ok _ => False
  | .error e => CX outer H s E e s'
structure FnOk (P : Program) (w : World) (K : PySem.W.Frag) (mg : Str → Option Value) (base : Heap) (CX : CXT) (k : Nat) (f : Addr) (fd : FuncData) (ps : List Str) (sp : Sp) : Prop where
  len : ∀ vs H Q E, sp vs H Q E → vs.length = ps.length
  run : ∀ (A : Around) (outer : List Env) (s : Shared) (H : Hp) (args : Args) (us : List Value) (vs : List V) (Q : VK) (E : XK), Room k A → Env0 P w K mg base A outer s H → BindsTo s fd args (ps.zip us) → Vals vs us → sp vs H Q E →
    codeAny (model P w) A (.call (.ref f) args) (CR CX outer P w H s Q E) s
theorem Env0.make {P : Program} {w : World} {K : PySem.W.Frag} {mg : Str → Option Value} {base : Heap} {A : Around} {outer : List Env} {s : Shared} {H : Hp} (e : Env0 P w K mg base A outer s H) (C : Addr) (us : List Value) (kw : List (Str × Value)) :
    Env0 P w K mg base (A.under (.builtin "type.__call__" ⟨.ref C :: us, kw⟩)) outer s H := ⟨by first | exact e.frames | (simpa [Around.under, Code.envs, Code.isFrame, pushEnvs] using e.frames), e.mod, e.bs, e.bsz, e.funs, e.frf, e.hok, e.bare⟩
section
variable {X : Cx} {pins : List (Addr × Obj)} {σ : St} {H : Hp} {s s' : Shared}
/-- from a body: what a callee wants -/
theorem Inv.env0 (I : Inv X pins σ H s) : Env0 X.prog X.w X.K X.mg X.base X.A X.stack s H :=
  ⟨I.ok.frames, I.ok.mod, I.bs, Nat.le_trans I.ok.bsz I.sz, I.stack, I.stkFree, I.hok, I.bare⟩
/-- behind a call -/
theorem Inv.after {Q : VK} {u : Value} (I : Inv X pins σ H s) (h : CE X.stack X.prog X.w H s Q u s') : EP X pins σ Q u s' := by
  obtain ⟨v, H', os, bare, un, hok, r, q⟩ := h
  obtain ⟨hh, g, d, t, os'⟩ := s'
  obtain rfl : os' = s.os := os
  exact ⟨v, H', I.call (h' := hh) (g' := g) (d' := d) (t' := t) (ch := []) un hok bare (fun b z => absurd z (by simp)), r, q⟩
end

/-! ### calls -/
/-- f(..): the written arguments, then the defaults dvs; E: what is wanted of an exception -/
def tCall (sp : Sp) (dvs : List V) (E : XK) (t : TA) : TE := fun σ H Q => t σ H fun vs H1 => sp (vs ++ dvs) H1 Q E
/-- o.m(..) of an instance of the class at C -/
def tMeth (C : Addr) (m : Str) (sp : Sp) (dvs : List V) (E : XK) (ta : TE) (t : TA) : TE := fun σ H Q => ta σ H fun x H1 => ∃ a dx fs, x = .ref a ∧ H1 a = some (.ins C dx fs) ∧ fs.lookup m = none ∧
  t σ H1 fun vs H2 => sp (x :: (vs ++ dvs)) H2 Q E
/-- C(..): a new instance and its dict, then __init__ -/
def tMake (C : Addr) (sp : Sp) (dvs : List V) (E : XK) (t : TA) : TE := fun σ H Q => t σ H fun vs H1 => ∀ x dx, H1 x = none → H1 dx = none → dx ≠ x →
  sp (.ref x :: (vs ++ dvs)) (upd (upd H1 dx (.own x)) x (.ins C dx [])) (fun v H2 => v = .non ∧ Q (.ref x) H2) E

/-- how the parameters are bound: us the positional arguments, kw the keywords' values by name, ds the defaults that fill up -/
def Binds (K : PySem.W.Frag) (fd : FuncData) (ps : List Str) (ds : List Value) : Prop :=
  ∀ (s : Shared) (us : List Value), K.In s.heap → (us ++ ds).length = ps.length → BindsTo s fd ⟨us, []⟩ (ps.zip (us ++ ds))
/-- every parameter is given -/
theorem Binds.all {K : PySem.W.Frag} {fd : FuncData} {ps : List Str} (h : ∀ us : List Value, us.length = ps.length → bindArgs fd ⟨us, []⟩ = pure (ps.zip us)) : Binds K fd ps [] := fun s us _ hl => by
  rw [List.append_nil] at hl ⊢
  exact .of_eq (h us hl)

/-- an exception of a callee reaches what this body wants of exceptions -/
def Passes (CX : CXT) (X : Cx) (E : XK) : Prop := ∀ (pins : List (Addr × Obj)) (σ : St) (H : Hp) (s : Shared) (e : Value) (s' : Shared), Inv X pins σ H s → CX X.stack H s E e s' → X.xe e s'

section
variable {X : Cx} {CX : CXT} {k : Nat} {f C : Addr} {fd : FuncData} {ps : List Str} {sp : Sp} {dvs : List V} {ds : List Value} {E : XK} {x m : Str} {p pos apos : Pos} {e o : Expr} {es : List Expr} {ta : TE} {t : TA}

/-- the callee runs -/
theorem run_fn {pins : List (Addr × Obj)} {σ : St} {H : Hp} {s : Shared} {Q : VK} {us : List Value} {vs : List V} (F : FnOk X.prog X.w X.K X.mg X.base CX k f fd ps sp) (hr : Room k X.A) (hb : Binds X.K fd ps ds) (hd : Vals dvs ds) (hx : Passes CX X E)
    (I : Inv X pins σ H s) (r : Vals vs us) (h : sp (vs ++ dvs) H Q E) : wpAny (model X.prog X.w) X.A (call (.ref f) us) (EP X pins σ Q) X.xe s := by
  have r2 : Vals (vs ++ dvs) (us ++ ds) := r.append hd
  have hl : (us ++ ds).length = ps.length := by rw [← r2.length]; exact F.len _ _ _ _ h
  refine wpAny_call (codeAny_mono (F.run X.A X.stack s H ⟨us, []⟩ (us ++ ds) (vs ++ dvs) Q E hr I.env0 (hb s us I.kIn hl) r2 h) fun r s' hq => ?_)
  cases r with
  | error e => exact hx pins σ H s e s' I hq
  | ok fl =>
    cases fl with
    | ret u => exact I.after hq
    | next => exact False.elim hq
    | brk => exact False.elim hq
    | cont => exact False.elim hq

theorem pe_call (F : FnOk X.prog X.w X.K X.mg X.base CX k f fd ps sp) (hr : Room k X.A) (hg : Gl X x) (hm : X.mg x = some (.ref f)) (hk : PySem.W.keepIn X.K (.ref f) = true) (hb : Binds X.K fd ps ds) (hd : Vals dvs ds) (hx : Passes CX X E)
    (ha : PA X (e :: es) t) (hdb : (x == ("__debug__" : Str)) = false := by decide) (he : starEach (e :: es) X.env = (false, eval e X.env) :: starEach es X.env := by rfl) (hpl : (backTo pos (starEach es X.env)).any (·.1) = false := by rfl) :
    PE X (.Call (.Name x p) (e :: es) [] pos) (tCall sp dvs E t) := by
  intro pins s σ H Q I h
  refine wpAny_Call_Name_kw (ld_glob I hg hm ?_ hdb)
  refine PySem.W.callWith_K (h₀ := X.base) I.ok.mod.kin hk (thn (ha pos pins s σ H _ I h) fun us s1 ⟨vs, H1, I1, r, q⟩ => ⟨I1.kIn, ?_⟩) he hpl
  exact run_fn F hr hb hd hx I1 r q
/-- o.m(e, ..) -/
theorem pe_meth {pl : Sem Bool} (he : PE X o ta) (c : Cls X.K C) (hm : Meth X.K C m f) (F : FnOk X.prog X.w X.K X.mg X.base CX k f fd ps sp) (hr : Room k X.A) (hb : Binds X.K fd ps ds) (hd : Vals dvs ds) (hx : Passes CX X E) (ha : PA X (e :: es) t)
    (hst : starEach (e :: es) X.env = (false, eval e X.env) :: starEach es X.env := by rfl) (hpl : (backTo pos (starEach es X.env)).any (·.1) = false := by rfl)
    (ht : eval (.Call (.Attribute o m apos) (e :: es) [] pos) X.env = (do
      let ov ← eval o X.env
      standAt apos.atName
      let (f, first) ← holding [ov] (getMethod ov m pl)
      callWith pos f first (backTo pos (starEach (e :: es) X.env)) (backToKw pos (keywordEach [] X.env))) := by rfl) :
    PE X (.Call (.Attribute o m apos) (e :: es) [] pos) (tMeth C m sp dvs E ta t) := by
  intro pins s σ H Q I h
  refine PySem.W.methodCall_KW (pl := pl) (thn (he pins s σ H _ I h) fun u s1 ⟨x, H1, I1, rx, a, dx, fs, ex, ea, l, q⟩ => ?_) ht
  subst ex
  obtain rfl : u = Value.ref a := rx
  refine getmeth_ok I1 ea c hm l ?_
  refine PySem.W.callWith_K (first := [.ref a]) (h₀ := X.base) I.ok.mod.kin hm.kp (thn (ha pos pins s1 σ H1 _ I1 q) fun us s2 ⟨vs, H2, I2, r, q2⟩ => ⟨I2.kIn, ?_⟩) hst hpl
  exact run_fn (us := .ref a :: us) (vs := .ref a :: vs) F hr hb hd hx I2 (.cons rfl r) q2
/-- what a class must have to be made -/
structure Mk (K : PySem.W.Frag) (C f : Addr) : Prop where
  makes : PySem.W.makesIn K C = true
  init : PySem.W.findIn K (.ref C) "__init__" = some (some (.ref f))
  fn : PySem.W.isFn K (.ref f) = true
  kp : PySem.W.keepIn K (.ref C) = true

theorem run_make {pins : List (Addr × Obj)} {σ : St} {H : Hp} {s : Shared} {Q : VK} {us : List Value} {vs : List V} (M : Mk X.K C f) (F : FnOk X.prog X.w X.K X.mg X.base CX k f fd ps sp) (hr : Room (k + 1) X.A) (hb : Binds X.K fd ps ds) (hd : Vals dvs ds)
    (hx : Passes CX X E) (I : Inv X pins σ H s) (r : Vals vs us)
    (h : ∀ x dx, H x = none → H dx = none → dx ≠ x → sp (.ref x :: (vs ++ dvs)) (upd (upd H dx (.own x)) x (.ins C dx [])) (fun v H2 => v = .non ∧ Q (.ref x) H2) E) :
    wpAny (model X.prog X.w) X.A (call (.ref C) us) (EP X pins σ Q) X.xe s := by
  have hq := h (s.heap.objs.size + 1) s.heap.objs.size (I.hok.fresh (Nat.le_succ _)) (I.hok.fresh (Nat.le_refl _)) (Nat.ne_of_lt (Nat.lt_succ_self _))
  have I2 := Inv.made (C := C) I
  have r2 : Vals (V.ref (s.heap.objs.size + 1) :: (vs ++ dvs)) (Value.ref (s.heap.objs.size + 1) :: (us ++ ds)) := .cons rfl (r.append hd)
  have hl : (Value.ref (s.heap.objs.size + 1) :: us ++ ds).length = ps.length := by
    have e := r2.length
    rw [F.len _ _ _ _ hq] at e
    exact e.symm
  refine wpAny_call (make_map (f := f) I.kIn M.makes M.init (beq_iff_eq.mp M.fn) (codeAny_mono (F.run _ X.stack _ _ ⟨Value.ref (s.heap.objs.size + 1) :: us, []⟩ (Value.ref (s.heap.objs.size + 1) :: (us ++ ds)) _ _ E (hr.make C us [])
    (I2.env0.make C us []) (hb _ (Value.ref (s.heap.objs.size + 1) :: us) I2.kIn hl) r2 hq) fun r s' hq' => ?_))
  cases r with
  | error e => exact hx pins σ _ _ e s' I2 hq'
  | ok fl =>
    cases fl with
    | ret u =>
      obtain ⟨v, H', I3, rv, ev, q3⟩ := I2.after hq'
      subst ev
      exact ⟨rv, ⟨V.ref (s.heap.objs.size + 1), H', I3, rfl, q3⟩⟩
    | next => exact False.elim hq'
    | brk => exact False.elim hq'
    | cont => exact False.elim hq'
theorem pe_make (M : Mk X.K C f) (F : FnOk X.prog X.w X.K X.mg X.base CX k f fd ps sp) (hr : Room (k + 1) X.A) (hg : Gl X x) (hm : X.mg x = some (.ref C)) (hb : Binds X.K fd ps ds) (hd : Vals dvs ds) (hx : Passes CX X E)
    (ha : PA X (e :: es) t) (hdb : (x == ("__debug__" : Str)) = false := by decide) (he : starEach (e :: es) X.env = (false, eval e X.env) :: starEach es X.env := by rfl) (hpl : (backTo pos (starEach es X.env)).any (·.1) = false := by rfl) :
    PE X (.Call (.Name x p) (e :: es) [] pos) (tMake C sp dvs E t) := by
  intro pins s σ H Q I h
  refine wpAny_Call_Name_kw (ld_glob I hg hm ?_ hdb)
  refine PySem.W.callWith_K (h₀ := X.base) I.ok.mod.kin M.kp (thn (ha pos pins s σ H _ I h) fun us s1 ⟨vs, H1, I1, r, q⟩ => ⟨I1.kIn, ?_⟩) he hpl
  exact run_make M F hr hb hd hx I1 r q
end

/-! ### keywords -/
section
variable {X : Cx} {CX : CXT} {k : Nat} {f C : Addr} {fd : FuncData} {ps ks : List Str} {sp : Sp} {E : XK} {x m : Str} {p pos apos kpos : Pos} {e o : Expr} {es : List Expr} {kws : List Keyword} {te ta : TE} {t tk : TA} {nm : Option Str}
variable {g : List Value → List Value → List Value} {gV : List V → List V → List V}
end

/-! ### a def's body keeps its promise -/
/-- names: the parameters first -/
structure FnScope (N P : List Str) (sc : Scope) : Prop where
  kind : sc.kind = .function
  co : sc.isCoroutine = false
  gen : sc.isGenerator = false
  nd : N.Nodup
  pre : N.take P.length = P
  par : ∀ x ∈ P, sc.names.lookup x = some .local ∨ sc.names.lookup x = some .cell
  nofree : ∀ y ∈ sc.names, y.2 ≠ .free

theorem bindL_out {kindOf : Str → Option NameKind} {x : Str} : ∀ {binds : List (Str × Value)} {m : Str → Option Value}, (∀ v, (x, v) ∉ binds) → bindL kindOf binds m x = m x
  | [], _, _ => rfl
  | (n, v) :: r, m, h => by
    unfold bindL
    rw [bindL_out fun w hw => h w (List.mem_cons_of_mem _ hw)]
    split
    · have : x ≠ n := by rintro rfl; exact h v List.mem_cons_self
      simp [this]
    · rfl
theorem bindC_out {kindOf : Str → Option NameKind} {x : Str} : ∀ {binds : List (Str × Value)} {m : Str → Option Value}, (∀ v, (x, v) ∉ binds) → bindC kindOf binds m x = m x
  | [], _, _ => rfl
  | (n, v) :: r, m, h => by
    unfold bindC
    rw [bindC_out fun w hw => h w (List.mem_cons_of_mem _ hw)]
    split
    · rfl
    · have : x ≠ n := by rintro rfl; exact h v List.mem_cons_self
      simp [this]
theorem bindL_get {kindOf : Str → Option NameKind} {x : Str} {v : Value} : ∀ {P : List Str} {vs : List Value} {i : Nat} {m : Str → Option Value}, P.Nodup → P[i]? = some x → vs[i]? = some v → kindOf x = some .local →
    bindL kindOf (P.zip vs) m x = some v
  | [], _, _, _, _, h, _, _ => by simp at h
  | _ :: _, [], _, _, _, _, h, _ => by simp at h
  | p :: P, w :: vs, 0, m, nd, h1, h2, hk => by
    simp at h1 h2; subst h1; subst h2
    show bindL kindOf ((p, w) :: P.zip vs) m p = _
    unfold bindL
    rw [bindL_out fun v hv => (List.nodup_cons.mp nd).1 (List.of_mem_zip hv).1, if_pos hk]
    simp
  | p :: P, w :: vs, i + 1, m, nd, h1, h2, hk => by
    show bindL kindOf ((p, w) :: P.zip vs) m x = _
    unfold bindL
    exact bindL_get (i := i) (List.nodup_cons.mp nd).2 (by simpa using h1) (by simpa using h2) hk
theorem bindC_get {kindOf : Str → Option NameKind} {x : Str} {v : Value} : ∀ {P : List Str} {vs : List Value} {i : Nat} {m : Str → Option Value}, P.Nodup → P[i]? = some x → vs[i]? = some v → kindOf x ≠ some .local →
    bindC kindOf (P.zip vs) m x = some v
  | [], _, _, _, _, h, _, _ => by simp at h
  | _ :: _, [], _, _, _, _, h, _ => by simp at h
  | p :: P, w :: vs, 0, m, nd, h1, h2, hk => by
    simp at h1 h2; subst h1; subst h2
    show bindC kindOf ((p, w) :: P.zip vs) m p = _
    unfold bindC
    rw [bindC_out fun v hv => (List.nodup_cons.mp nd).1 (List.of_mem_zip hv).1, if_neg hk]
    simp
  | p :: P, w :: vs, i + 1, m, nd, h1, h2, hk => by
    show bindC kindOf ((p, w) :: P.zip vs) m x = _
    unfold bindC
    exact bindC_get (i := i) (List.nodup_cons.mp nd).2 (by simpa using h1) (by simpa using h2) hk

/-- the names' values at the entry -/
def start (N : List Str) (vs : List V) : St := vs.map some ++ List.replicate (N.length - vs.length) none

/-- the context of a def's body, at its entry; an exception leaves the frame, then lies as CX says -/
def cxOf (CX : CXT) (P : Program) (w : World) (K : PySem.W.Frag) (mg : Str → Option Value) (base : Heap) (N : List Str) (qual : Str) (scope : Scope) (f : Addr) (cd : Value) (A : Around) (outer : List Env) (s : Shared) (H : Hp) (E : XK) : Cx where
  prog := P
  w := w
  K := K
  mg := mg
  base := base
  A := A.deeper (envOfC qual scope s.heap.objs.size f cd)
  N := N
  s_0 := s
  H_0 := H
  env := envOfC qual scope s.heap.objs.size f cd
  outer := outer
  stack := envOfC qual scope s.heap.objs.size f cd :: outer
  ex := []
  calm := true
  fn := fun _ => true
  pn := []
  xe := fun e s' => wpAny (model P w) (A.deeper (envOfC qual scope s.heap.objs.size f cd)) (leaving (envOfC qual scope s.heap.objs.size f cd) e) (fun _ s'' => CX outer H s E e s'') (fun e' s'' => CX outer H s E e' s'') s'

theorem cell_has {sc : Scope} {n : Nat} {x : Str} (h : sc.names.lookup x = some .cell) : ∃ c, (cellsFrom n sc.names []).lookup x = some c := by
  have q := PySem.W.cellsFrom_some sc.names n [] (.inl h)
  exact Option.isSome_iff_exists.mp q

theorem inv_start {CX : CXT} {P : Program} {w : World} {K : PySem.W.Frag} {mg : Str → Option Value} {base : Heap} {N ps : List Str} {qual : Str} {scope : Scope} {f : Addr} {cd : Value} {A : Around} {outer : List Env} {s s1 : Shared} {H : Hp} {E : XK} {us : List Value} {vs : List V}
    (S : FnScope N ps scope) (hd : A.handled = none) (e0 : Env0 P w K mg base A outer s H) (hl : vs.length = ps.length) (r : Vals vs us)
    (x : InCallC s s.heap.objs.size (bindL (envOfC qual scope s.heap.objs.size f cd).kindOf (ps.zip us) fun _ => none) (cellsFrom (s.heap.objs.size + 1) scope.names []) (bindC (envOfC qual scope s.heap.objs.size f cd).kindOf (ps.zip us) fun _ => none) s1) :
    Inv (cxOf CX P w K mg base N qual scope f cd A outer s H E) [] (start N vs) H s1 := by
  have hpl : ps.length ≤ N.length := by have := congrArg List.length S.pre; rw [List.length_take] at this; omega
  obtain ⟨h1, tk, rfl, hk⟩ := x.done
  have noA : ∀ b : Addr, b ∉ (cxOf CX P w K mg base N qual scope f cd A outer s H E).ex := fun b z => absurd (show b ∈ ([] : List Addr) from z) (by simp)
  refine ⟨⟨e0.mod, S.kind, rfl, rfl, Nat.le_refl _, fun y z c h1 h2 => ?_, fun y hy => ?_, fun y c _ h => ?_, fun _ => hd, Around.frames_deeper e0.frames, .inr ⟨rfl, rfl⟩, fun b z => absurd z (noA b), e0.bs, e0.bsz, fun b _ _ => noA b, fun b z => absurd z (noA b), e0.funs, e0.frf⟩,
    rfl, e0.bare, Un.kept hk, ⟨_, x.toInCall.ns, fun i y v h1 h2 h3 => ?_⟩, fun y c h => ⟨_, x.cell y c h⟩, e0.hok.fresh (Nat.le_refl _), fun y c h => ?_, fun p hp => absurd (show p ∈ ([] : List (Addr × Obj)) from hp) (by simp), e0.hok.kept hk, ?_⟩
  · exact name_of_addr x.apart (PySem.mem_of_lookup h1) (PySem.mem_of_lookup h2)
  · have hy : scope.names.lookup y = some .cell ∨ scope.names.lookup y = some .free := hy
    rcases hy with hy | hy
    · exact cell_has hy
    · exact absurd rfl (S.nofree _ (PySem.mem_of_lookup hy))
  · exact Nat.le_of_lt (x.above y c (PySem.mem_of_lookup h))
  · have hi : i < vs.length := by
      unfold start at h2
      by_cases hi : i < vs.length
      · exact hi
      · rw [List.getElem?_append_right (by simpa using hi)] at h2
        rw [List.getElem?_replicate] at h2
        split at h2 <;> cases h2
    have ha : vs[i]? = some v := by
      unfold start at h2
      rw [List.getElem?_append_left (by simpa using hi), List.getElem?_map] at h2
      cases e : vs[i]? with
      | none => rw [e] at h2; cases h2
      | some a => rw [e] at h2; cases h2; rfl
    obtain ⟨u, hu, rv⟩ := r.get ha
    have hp : ps[i]? = some y := by
      rw [← S.pre, List.getElem?_take_of_lt (by omega)]; exact h1
    have ndP : ps.Nodup := by rw [← S.pre]; exact S.nd.sublist (List.take_sublist _ _)
    refine ⟨u, rv, ?_⟩
    rcases S.par y (List.mem_of_getElem? hp) with k | k
    · exact .inl ⟨k, bindL_get ndP hp hu k⟩
    · obtain ⟨c, e⟩ := cell_has (n := s.heap.objs.size + 1) k
      refine .inr ⟨.inl k, c, e, ?_⟩
      have q := x.cell y c e
      rw [bindC_get ndP hp hu (by show scope.names.lookup y ≠ _; rw [k]; decide)] at q
      exact q
  · exact e0.hok.fresh (Nat.le_of_lt (x.above y c (PySem.mem_of_lookup h)))
  · unfold start
    show _ = N.length
    rw [List.length_append, List.length_map, List.length_replicate]
    omega

/-- THE RULE: a def (or a method) of the text, by its body. The body's reading t is chosen for each entry; it is run at the parameters' values -/
theorem fn_of {CX : CXT} {P : Program} {w : World} {K : PySem.W.Frag} {mg : Str → Option Value} {base : Heap} {k : Nat} {f : Addr} {name qual : Str} {params : Arguments} {body : List Stmt} {scope : Scope} {dV kV doc pm cdv ct oc : Value} {an od : Option Addr}
    {osl : Array (Option Value)} {N ps : List Str} {sp : Sp} (lk : K.lookup f = some ⟨oc, od, .func (PySem.W.fnOf name qual params body scope dV kV doc pm an cdv ct), osl⟩) (hcd : PySem.W.codeIn K cdv qual = true) (S : FnScope N ps scope)
    (len : ∀ vs H Q E, sp vs H Q E → vs.length = ps.length)
    (hbody : ∀ (A : Around) (outer : List Env) (s : Shared) (H : Hp) (vs : List V) (Q : VK) (E : XK), Room k (A.deeper (envOfC qual scope s.heap.objs.size f cdv)) → sp vs H Q E →
      ∃ t, PSs (cxOf CX P w K mg base N qual scope f cdv A outer s H E) body t ∧ t { nx := fun _ H' => Q .non H', rt := Q } (start N vs) H) :
    FnOk P w K mg base CX (k + 1) f (PySem.W.fnOf name qual params body scope dV kV doc pm an cdv ct) ps sp := by
  refine ⟨len, fun A outer s H args us vs Q E hr e0 hb r hsp => ?_⟩
  have hl := len _ _ _ _ hsp
  have KX : K.In s.heap := e0.mod.kin.keeps fun b o e => (e0.bs b o e).1
  have lim : s.heap.NoLimit := e0.mod.nolimit.keeps fun b o e => (e0.bs b o e).1
  have hkind : ∀ y ∈ ps.zip us, scope.names.lookup y.1 = some .local ∨ (scope.names.lookup y.1 = some .cell ∧ ((cellsFrom (s.heap.objs.size + 1) scope.names []).lookup y.1).isSome = true) := fun ⟨n, v⟩ hy => by
    rcases S.par n (List.of_mem_zip hy).1 with q | q
    · exact .inl q
    · exact .inr ⟨q, PySem.W.cellsFrom_some _ _ _ (.inl q)⟩
  refine codeAny_call_function hr.depth (KX _ _ lk) rfl S.co S.gen rfl (PySem.W.codeRec_of KX hcd) (hb _ _ _ _ ?_)
  refine wpAny_newFunctionEnv_cells S.kind hkind fun env he s1 x => ?_
  subst he
  refine ⟨lim.keeps x.toInCall.keep, codeAny_func ?_⟩
  obtain ⟨t, ht, hq⟩ := hbody A outer s H vs Q E (hr.deeper _) hsp
  have I : Inv (cxOf CX P w K mg base N qual scope f cdv A outer s H E) [] (start N vs) H s1 := inv_start S hr.hd e0 hl r x
  refine wpAny_mono (ht [] s1 (start N vs) H _ I hq) (fun fl s' hs => ?_) fun e s' hs => hs
  have fin : ∀ {σ' : St} {H' : Hp} {v : V} {u : Value}, Inv (cxOf CX P w K mg base N qual scope f cdv A outer s H E) [] σ' H' s' → RelV v u → Q v H' → CE outer P w H s Q u s' :=
    fun {σ' H' v u} J rv q => ⟨v, H', J.os, J.bare, J.base, J.hok, rv, q⟩
  cases fl with
  | ret u =>
    obtain ⟨v, σ', H', J, rv, q⟩ := hs
    exact fin J rv q
  | next =>
    obtain ⟨σ', H', J, q⟩ := hs
    exact fin (v := V.non) (u := Value.none) J rfl q
  | brk =>
    obtain ⟨_, _, _, q⟩ := hs
    exact False.elim q
  | cont =>
    obtain ⟨_, _, _, q⟩ := hs
    exact False.elim q
end L2

namespace L2
open PySem PySem.Spec PyProof.Rows
section
variable {X : Cx} {x : Str} {p pos : Pos} {e : Expr} {es : List Expr} {t : TA} {id T : String} {r : List V → Hp → VK → Prop}

def tCB (r : List V → Hp → VK → Prop) (t : TA) : TE := fun σ H Q => t σ H fun vs H1 => r vs H1 Q
/-- f(e, ..), f a built-in function -/
theorem pe_callB (hc : CallR X (.builtin id) r) (hg : Gl X x) (hm : X.mg x = none) (hv : bootBuiltins x = some (.builtin id)) (ha : PA X (e :: es) t) (hn : x ≠ "__name__" := by decide) (hdb : (x == ("__debug__" : Str)) = false := by decide)
    (he : starEach (e :: es) X.env = (false, eval e X.env) :: starEach es X.env := by rfl) (hpl : (backTo pos (starEach es X.env)).any (·.1) = false := by rfl) : PE X (.Call (.Name x p) (e :: es) [] pos) (tCB r t) := by
  intro pins s σ H Q I h
  refine wpAny_Call_Name_kw (ld_blt I hg hm hv ?_ hn hdb)
  exact PyProof.Rows.callWith_builtin1 (thn (ha pos pins s σ H _ I h) fun us s1 ⟨vs, H1, I1, r1, q1⟩ => hc pins s1 σ H1 vs us Q I1 r1 q1) he hpl
/-- T(e, ..), T a built-in type -/
theorem pe_callTy (hc : CallR X (.type T) r) (hg : Gl X x) (hm : X.mg x = none) (hv : bootBuiltins x = some (.type T)) (ha : PA X (e :: es) t) (hn : x ≠ "__name__" := by decide) (hdb : (x == ("__debug__" : Str)) = false := by decide)
    (he : starEach (e :: es) X.env = (false, eval e X.env) :: starEach es X.env := by rfl) (hpl : (backTo pos (starEach es X.env)).any (·.1) = false := by rfl) : PE X (.Call (.Name x p) (e :: es) [] pos) (tCB r t) := by
  intro pins s σ H Q I h
  refine wpAny_Call_Name_kw (ld_blt I hg hm hv ?_ hn hdb)
  exact PyProof.Rows.callWith_type1 (thn (ha pos pins s σ H _ I h) fun us s1 ⟨vs, H1, I1, r1, q1⟩ => hc pins s1 σ H1 vs us Q I1 r1 q1) he hpl
end
end L2

namespace HT
open PySem PyProof.Rows
section
open PySem.SeqAt
open PySem.AutoSeq1 (wpAny_loadPart')
open PySem.MeetsSeq PySem.MeetsSeq2 PySem.MeetsSeq3
end

section
variable {prog : Program} {w : World} {A : Around} {E : Value → Shared → Prop} {s : Shared}
/-! ### t[a:b], not the whole -/
/-- a slice's bound as a place among n (d where it is left out) -/
def sIx (n d : Nat) : Option Int → Nat
  | none => d
  | some v => if v < 0 then (v + (n : Int)).toNat else min v.toNat n
theorem sIx_nat (n d k : Nat) : sIx n d (some (k : Int)) = min k n := by
  show (if (k : Int) < 0 then ((k : Int) + (n : Int)).toNat else min (k : Int).toNat n) = min k n
  rw [if_neg (by omega), Int.toNat_natCast]
end
end HT

namespace L2
open PySem PySem.Spec PyProof.Rows

/-! ### the parts of a slice -/
abbrev TO := St → Hp → (Option Int → Hp → Prop) → Prop
/-- a slice's part (left out, or an int) -/
def PO (X : Cx) (e : Option Expr) (t : TO) : Prop :=
  ∀ (pins : List (Addr × Obj)) (s : Shared) (σ : St) (H : Hp) (Q : Option Int → Hp → Prop), Inv X pins σ H s → t σ H Q →
    wpAny (model X.prog X.w) X.A (evalPart e X.env) (fun u s' => ∃ o H', Inv X pins σ H' s' ∧ IsPart u o ∧ Q o H') X.xe s
def tNoPart : TO := fun _ H Q => Q none H
def tPart (t : TE) : TO := fun σ H Q => t σ H fun x H1 => ∃ i, x = .int i ∧ Q (some i) H1
section
variable {X : Cx} {e : Expr} {te : TE} {lo hi : Option Expr} {tl th : TO} {pos p2 : Pos}

theorem po_none : PO X none tNoPart := by
  intro pins s σ H Q I h
  rw [evalPart_none]
  exact wpAny_pure ⟨none, H, I, .none, h⟩
theorem po_some (h : PE X e te) : PO X (some e) (tPart te) := by
  intro pins s σ H Q I hw
  rw [evalPart_some]
  refine thn (h pins s σ H _ I hw) fun u s1 ⟨x, H1, I1, r1, q1⟩ => ?_
  obtain ⟨i, rfl, q⟩ := q1
  obtain ⟨t, rfl⟩ := r1
  exact ⟨some i, H1, I1, .int i t, q⟩

/-- what a slice of a value is, by values: the slice object stands at sl -/
def SlR (X : Cx) (r : V → Option Int → Option Int → Hp → VK → Prop) : Prop :=
  ∀ (pins : List (Addr × Obj)) (s : Shared) (σ : St) (H : Hp) (x : V) (v vl vu : Value) (lo hi : Option Int) (sl : Addr) (Q : VK), Inv X pins σ H s → RelV x v → s.heap.IsSliceOf sl vl vu .none → IsPart vl lo → IsPart vu hi → r x lo hi H Q →
    ∃ T id, typeLookup (.type T) "__getitem__" = pure (some (.builtin id)) ∧ s.TypeIs v T ∧ wpAny (model X.prog X.w) X.A (getItem v (.ref sl)) (EP X pins σ Q) X.xe s
def tSl (r : V → Option Int → Option Int → Hp → VK → Prop) (te : TE) (tl th : TO) : TE := fun σ H Q => te σ H fun x H1 => tl σ H1 fun l H2 => th σ H2 fun u H3 => r x l u H3 Q
/-- a[lo:hi], any a -/
theorem pe_slice {r : V → Option Int → Option Int → Hp → VK → Prop} (hr : SlR X r) (he : PE X e te) (hl : PO X lo tl) (hu : PO X hi th) : PE X (.Subscript e (.Slice lo hi none p2) pos) (tSl r te tl th) := by
  intro pins s σ H Q I h
  refine Subscript_ (thn (he pins s σ H _ I h) fun v s1 ⟨x, H1, I1, r1, q1⟩ => ?_)
  refine wpAny_Slice (thn (hl pins s1 σ H1 _ I1 q1) fun vl s2 ⟨l, H2, I2, pl, q2⟩ => thn (hu pins s2 σ H2 _ I2 q2) fun vu s3 ⟨u, H3, I3, pu, q3⟩ => ?_)
  rw [evalPart_none]
  refine wpAny_pure ?_
  have I4 : Inv X pins σ H3 { s3 with heap := s3.heap.push { cls := .type "slice", data := .fields #[vl, vu, .none] } } := I3.kept (t' := s3.toks) fun b ob q => Heap.get?_push_of_some _ q
  obtain ⟨T, id, hT, ht, hg⟩ := hr pins { s3 with heap := s3.heap.push { cls := .type "slice", data := .fields #[vl, vu, .none] } } σ H3 x v vl vu l u s3.heap.objs.size Q I4 r1 (Heap.IsSliceOf.new ..) pl pu q3
  show wpAny (model X.prog X.w) X.A (subscriptTail e (.Slice lo hi none p2) v (.ref s3.heap.objs.size)) (EP X pins σ Q) X.xe { s3 with heap := s3.heap.push { cls := .type "slice", data := .fields #[vl, vu, .none] } }
  exact tail_any (ops := [.ref s3.heap.objs.size, v]) ht hT hg (by with_unfolding_all rfl)

/-- the items of xs[lo:hi] -/
def cutV (xs : List V) (lo hi : Option Int) : List V := (xs.drop (HT.sIx xs.length 0 lo)).take (HT.sIx xs.length xs.length hi - HT.sIx xs.length 0 lo)
theorem cutV_length (xs : List V) (lo hi : Option Int) : (cutV xs lo hi).length ≤ xs.length := by
  unfold cutV
  rw [List.length_take, List.length_drop]
  omega
/-! ### t < u, t + u -/
end
end L2

namespace L2
open PySem PySem.Spec PyProof.Rows

/-! ### places -/
/-- the place that an index of any sign means -/
def ixN (n : Nat) (i : Int) : Option Nat := if 0 ≤ i then (if i < n then some i.toNat else none) else if -(n : Int) ≤ i then some (i + n).toNat else none
def atI {α : Type} (xs : List α) (i : Int) : Option α := (ixN xs.length i).bind fun j => xs[j]?
theorem ixN_seq {n : Nat} {i : Int} {j : Nat} (h : ixN n i = some j) : seqIndex? i n = some j ∧ j < n ∧ -(n : Int) ≤ i ∧ i < n := by
  unfold ixN at h
  by_cases h0 : 0 ≤ i
  · rw [if_pos h0] at h
    by_cases h1 : i < n
    · rw [if_pos h1] at h
      have e : i.toNat = j := Option.some.inj h
      exact ⟨by rw [seqIndex_of h0 h1, e], by omega, by omega, h1⟩
    · rw [if_neg h1] at h; cases h
  · rw [if_neg h0] at h
    by_cases h1 : -(n : Int) ≤ i
    · rw [if_pos h1] at h
      have e : (i + n).toNat = j := Option.some.inj h
      exact ⟨by rw [seqIndex_neg (by omega) h1, e], by omega, h1, by omega⟩
    · rw [if_neg h1] at h; cases h
theorem atI_get {α : Type} {xs : List α} {i : Int} {v : α} (h : atI xs i = some v) : ∃ j, seqIndex? i xs.length = some j ∧ xs[j]? = some v ∧ j < xs.length ∧ -(xs.length : Int) ≤ i ∧ i < xs.length := by
  unfold atI at h
  cases e : ixN xs.length i with
  | none => rw [e] at h; cases h
  | some j =>
    rw [e] at h
    obtain ⟨h1, h2, h3, h4⟩ := ixN_seq e
    exact ⟨j, h1, h, h2, h3, h4⟩
theorem atI_nat {α : Type} {xs : List α} {j : Nat} {v : α} (h : xs[j]? = some v) : atI xs (j : Int) = some v := by
  have hj : j < xs.length := (List.getElem?_eq_some_iff.mp h).1
  have e : ixN xs.length (j : Int) = some j := by
    unfold ixN
    rw [if_pos (by omega), if_pos (by omega)]; simp
  unfold atI; rw [e]; exact h
/-! ### what may be subscripted -/
/-- what stands as an index of a plain subscript -/
def PlainIx (b : Expr) : Prop := ∀ o i, subscripted b false o i = operate [o, i] (getItem o i)
/-- a subscript by values -/
def IxR (X : Cx) (r : R2) : Prop :=
  ∀ (value slice : Expr) (pins : List (Addr × Obj)) (s : Shared) (σ : St) (H : Hp) (x y : V) (v u : Value) (Q : VK), Inv X pins σ H s → RelV x v → RelV y u → r x y H Q →
    subscripted slice false v u = operate [v, u] (getItem v u) → wpAny (model X.prog X.w) X.A (subscriptTail value slice v u) (EP X pins σ Q) X.xe s
/-- a call of a builtin's method by values: the receiver, the arguments -/
def MtR (X : Cx) (id : String) (r : V → List V → Hp → VK → Prop) : Prop :=
  ∀ (pins : List (Addr × Obj)) (s : Shared) (σ : St) (H : Hp) (x : V) (xs : List V) (v : Value) (us : List Value) (Q : VK), Inv X pins σ H s → RelV x v → Vals xs us → r x xs H Q →
    wpAny (model X.prog X.w) X.A (call (.builtin id) (v :: us)) (EP X pins σ Q) X.xe s
section
variable {X : Cx} {a b : Expr} {ta tb : TE} {pos : Pos}
/-- a[b] -/
theorem pe_ix {r : R2} (hr : IxR X r) (ha : PE X a ta) (hb : PE X b tb) (hs : PlainIx b) : PE X (.Subscript a b pos) (tOp r ta tb) := by
  intro pins s σ H Q I h
  exact Subscript_ (binT ha hb I h fun v u s2 x y H2 I2 rx ry q => hr a b pins s2 σ H2 x y v u Q I2 rx ry q (hs _ _))

def rIxL (K : PySem.W.Frag) : R2 := fun x y H Q => ∃ p xs i v, x = .ref p ∧ y = .int i ∧ SqL K H p xs ∧ atI xs i = some v ∧ Q v H
def rIxT (K : PySem.W.Frag) : R2 := fun x y H Q => ∃ p xs i v, x = .ref p ∧ y = .int i ∧ SqT K H p xs ∧ atI xs i = some v ∧ Q v H
theorem ix_list : IxR X (rIxL X.K) := by
  intro value slice pins s σ H x y v u Q I rx ry h hs
  obtain ⟨p, xs, i, z, rfl, rfl, hq, he, q⟩ := h
  cases rx
  obtain ⟨t, rfl⟩ := ry
  obtain ⟨its, r, pl, hz⟩ := I.list hq
  obtain ⟨j, h1, h2, h3, h4, h5⟩ := atI_get he
  obtain ⟨w, ew, rw'⟩ := r.get h2
  have hl := r.length
  have hn := line63
  have fin : EP X pins σ Q w s := ⟨z, H, I, rw', q⟩
  by_cases h0 : 0 ≤ i
  · have hj : i.toNat = j := by
      rw [seqIndex_of h0 h5] at h1
      exact Option.some.inj h1
    exact item_listR pl.isList h0 (by omega) (by rw [hj]; simpa using ew) fin hs
  · have hj : (i + (its.toArray.size : Int)).toNat = j := by
      rw [seqIndex_neg (by omega) h4] at h1
      rw [List.size_toArray, ← hl]
      exact Option.some.inj h1
    exact subscriptTail_builtinR (x := w) pl.isList.typeIs slot_list_getitem.lookup
      (wpAny_getItem_list_neg (Q := fun r s' => r = w ∧ EP X pins σ Q r s') pl.isList (by omega) (by rw [List.size_toArray] <;> omega) (by omega) (by rw [hj]; simpa using ew) ⟨rfl, fin⟩) hs
theorem ix_tup : IxR X (rIxT X.K) := by
  intro value slice pins s σ H x y v u Q I rx ry h hs
  obtain ⟨p, xs, i, z, rfl, rfl, hq, he, q⟩ := h
  cases rx
  obtain ⟨t, rfl⟩ := ry
  obtain ⟨its, r, pl, hz⟩ := I.tuple hq
  obtain ⟨j, h1, h2, h3, h4, h5⟩ := atI_get he
  obtain ⟨w, ew, rw'⟩ := r.get h2
  have hl := r.length
  have hn := line63
  have fin : EP X pins σ Q w s := ⟨z, H, I, rw', q⟩
  exact subscriptTail_builtinR (x := w) pl.typeIs slot_tuple_getitem.lookup
    (getItem_tuple (j := j) (Q := fun r s' => r = w ∧ EP X pins σ Q r s') pl (by omega) (by omega) (by rw [List.size_toArray, ← hl]; exact h1) (by simpa using ew) ⟨rfl, fin⟩) hs
/-! ### xs[i] = v, any sign -/
/-- the list's object behind a store -/
theorem mapSeq_set (its : List Value) (n j : Nat) (u : Value) : Obj.mapSeq (·.setIfInBounds j u) { cls := .type "list", data := .seq its.toArray n } = { cls := .type "list", data := .seq (its.set j u).toArray n } := by
  simp [Obj.mapSeq]
theorem Inv.lst {pins : List (Addr × Obj)} {σ : St} {H : Hp} {s : Shared} {p : Addr} {xs : List V} (I : Inv X pins σ H s) (h : H p = some (.lst xs)) :
    ∃ (its : List Value) (n : Nat), Vals xs its ∧ s.heap.get? p = some { cls := .type "list", data := .seq its.toArray n } ∧ xs.length ≤ sizeLine := by
  obtain ⟨z, its, n, r, e⟩ := I.hok p _ h
  exact ⟨its, n, r, e, z⟩
/-- the list at p is written by an update of its object -/
theorem Inv.lstUpd {pins : List (Addr × Obj)} {σ : St} {H : Hp} {s : Shared} {p : Addr} {xs ys : List V} {its its' : List Value} {n n' : Nat} {f : Obj → Obj} (I : Inv X pins σ H s) (h : H p = some (.lst xs))
    (ho : s.heap.get? p = some { cls := .type "list", data := .seq its.toArray n }) (hf : f { cls := .type "list", data := .seq its.toArray n } = { cls := .type "list", data := .seq its'.toArray n' }) (r : Vals ys its') (hz : ys.length ≤ sizeLine) (t : Nat) :
    Inv X pins σ (upd H p (.lst ys)) { s with heap := s.heap.update p f, toks := t } := by
  have e : (s.heap.update p f).get? p = some { cls := .type "list", data := .seq its'.toArray n' } := by
    rw [Heap.get?_update_self f ho (by rw [hf] <;> rfl), hf]
  refine I.write (x := p) (e := p) (by rw [h]; trivial) (.inl rfl) (fun b u hb q => (Heap.get?_update_other _ _ (Ne.symm hb)).trans q) ⟨_, e⟩ ?_
  exact ⟨hz, its', n', r, e⟩
def rSetL : V → V → V → Hp → (Hp → Prop) → Prop := fun o i v H Q => ∃ p xs k j, o = .ref p ∧ i = .int k ∧ H p = some (.lst xs) ∧ ixN xs.length k = some j ∧ Q (upd H p (.lst (xs.set j v)))
theorem set_list : PSet X rSetL := by
  intro pins s σ H o i v ov iv u Q I ro ri rv h
  obtain ⟨p, xs, k, j, rfl, rfl, hp, hj, q⟩ := h
  cases ro
  obtain ⟨t, rfl⟩ := ri
  obtain ⟨its, n, r, ho, hz⟩ := I.lst hp
  obtain ⟨h1, h2, h3, h4⟩ := ixN_seq hj
  have hl := r.length
  have hn := line63
  have I' : Inv X pins σ (upd H p (.lst (xs.set j v))) { s with heap := s.heap.update p (Obj.mapSeq (·.setIfInBounds j u)) } :=
    I.lstUpd hp ho (mapSeq_set its n j u) (r.set rv j) (by rw [List.length_set]; exact hz) s.toks
  by_cases h0 : 0 ≤ k
  · have hk : k.toNat = j := by
      rw [seqIndex_of h0 h4] at h1
      exact Option.some.inj h1
    exact PySem.W.ki_setAt ho h0 (by omega) (by rw [List.size_toArray, ← hl]; exact h4) (by rw [hk]; exact ⟨_, I', q⟩)
  · have hk : (k + (its.toArray.size : Int)).toNat = j := by
      rw [seqIndex_neg (by omega) h3] at h1
      rw [List.size_toArray, ← hl]
      exact Option.some.inj h1
    exact PySem.W.ki_setBack ho (by omega) (by rw [List.size_toArray, ← hl]; exact h3) (by omega) (by rw [hk]; exact ⟨_, I', q⟩)

/-! ### slices -/
theorem slice_bounds (lo hi : Option Int) (n : Nat) : (sliceBounds lo hi none n).1 = ((HT.sIx n 0 lo : Nat) : Int) ∧ (sliceBounds lo hi none n).2.1 = ((HT.sIx n n hi : Nat) : Int) ∧ (sliceBounds lo hi none n).2.2 = 1 := by
  refine ⟨?_, ?_, rfl⟩
  · cases lo with
    | none => simp [sliceBounds, HT.sIx]
    | some i =>
      simp only [sliceBounds, HT.sIx, Option.getD_none, show (1 : Int) > 0 by decide, if_true]
      by_cases h : i < 0
      · simp only [h, if_true] <;> omega
      · simp only [h, if_false] <;> omega
  · cases hi with
    | none => simp [sliceBounds, HT.sIx]
    | some i =>
      simp only [sliceBounds, HT.sIx, Option.getD_none, show (1 : Int) > 0 by decide, if_true]
      by_cases h : i < 0
      · simp only [h, if_true] <;> omega
      · simp only [h, if_false] <;> omega
theorem slicePick_cut (its : List Value) (lo hi : Option Int) : slicePick its.toArray lo hi none = ((its.drop (HT.sIx its.length 0 lo)).take (HT.sIx its.length its.length hi - HT.sIx its.length 0 lo)).toArray := by
  obtain ⟨h1, h2, h3⟩ := slice_bounds lo hi its.toArray.size
  unfold slicePick
  rw [h1, h2, h3]
  simp only [sliceRange_one, pick_run, List.size_toArray] <;> rfl
/-- xs[lo:hi] of a list: a new list -/
def rSlL (K : PySem.W.Frag) : V → Option Int → Option Int → Hp → VK → Prop := fun x lo hi H Q => ∃ a xs, x = .ref a ∧ SqL K H a xs ∧ ∀ p, H p = none → Q (.ref p) (upd H p (.lst (cutV xs lo hi)))
theorem sl_list : SlR X (rSlL X.K) := by
  intro pins s σ H x v vl vu lo hi sl Q I rx hs pl pu h
  obtain ⟨a, xs, rfl, hx, q⟩ := h
  cases rx
  obtain ⟨its, r, ht, hz⟩ := I.list hx
  have hlen := r.length
  refine ⟨"list", _, slot_list_getitem.lookup, ht.isList.typeIs, ?_⟩
  refine wpAny_getItem_list_slice ht.isList hs pl pu .none (by simp) ?_ (by rw [List.size_toArray] <;> omega)
  rw [slicePick_cut, ← hlen]
  refine ⟨.ref s.heap.objs.size, _, I.laid (t' := s.toks) (o := .lst (cutV xs lo hi)) (fun b ob q => Heap.get?_push_of_some _ q) (Nat.le_refl _) ?_, rfl, q _ (I.hok.fresh (Nat.le_refl _))⟩
  exact ⟨Nat.le_trans (cutV_length xs lo hi) hz, _, 0, (r.drop (HT.sIx xs.length 0 lo)).take (HT.sIx xs.length xs.length hi - HT.sIx xs.length 0 lo), Heap.get?_push_size _ rfl⟩

/-! ### in, not in: flat items -/
def flatV : V → Bool
  | .non => true
  | .bl _ => true
  | .int _ => true
  | .str _ => true
  | _ => false
/-- == of flat values -/
def eqV : V → V → Bool
  | .non, .non => true
  | .bl a, .bl b => a == b
  | .bl a, .int b => (if a then 1 else 0) == b
  | .int a, .bl b => a == (if b then 1 else 0)
  | .int a, .int b => a == b
  | .str a, .str b => a == b
  | _, _ => false
theorem eqAt_V {A : Around} {s : Shared} {y x : V} {u v : Value} (ry : RelV y u) (rx : RelV x v) (fy : flatV y = true) (fx : flatV x = true) : SeqAt.EqAt A s u v (eqV y x) := by
  cases y with
  | non =>
    cases ry
    cases x with
    | non => cases rx; exact SeqAt.EqAt.same _
    | bl b => cases rx; exact SeqAt.EqAt.none_bool b
    | int b => obtain ⟨t, rfl⟩ := rx; exact SeqAt.EqAt.none_int b t
    | str b => obtain ⟨t, rfl⟩ := rx; exact SeqAt.EqAt.none_str b t
    | _ => exact absurd (show false = true from fx) Bool.false_ne_true
  | bl a =>
    cases ry
    cases x with
    | non => cases rx; exact SeqAt.EqAt.bool_none a
    | bl b => cases rx; exact SeqAt.EqAt.bool_bool a b
    | int b => obtain ⟨t, rfl⟩ := rx; exact SeqAt.EqAt.bool_int a b t
    | str b => obtain ⟨t, rfl⟩ := rx; exact SeqAt.EqAt.bool_str a b t
    | _ => exact absurd (show false = true from fx) Bool.false_ne_true
  | int a =>
    obtain ⟨t', rfl⟩ := ry
    cases x with
    | non => cases rx; exact SeqAt.EqAt.int_none a t'
    | bl b => cases rx; exact SeqAt.EqAt.int_bool a t' b
    | int b => obtain ⟨t, rfl⟩ := rx; exact SeqAt.EqAt.int_int a t' b t
    | str b => obtain ⟨t, rfl⟩ := rx; exact SeqAt.EqAt.int_str a t' b t
    | _ => exact absurd (show false = true from fx) Bool.false_ne_true
  | str a =>
    obtain ⟨t', rfl⟩ := ry
    cases x with
    | non => cases rx; exact SeqAt.EqAt.str_none a t'
    | bl b => cases rx; exact SeqAt.EqAt.str_bool a t' b
    | int b => obtain ⟨t, rfl⟩ := rx; exact SeqAt.EqAt.str_int a t' b t
    | str b => obtain ⟨t, rfl⟩ := rx; exact SeqAt.EqAt.str_str a t' b t
    | _ => exact absurd (show false = true from fx) Bool.false_ne_true
  | _ => exact absurd (show false = true from fy) Bool.false_ne_true
/-- the items' answers, read off the values (a value's own answer does not lean on its token) -/
def eqU (x : V) (u : Value) : Bool := match u with
  | .none => eqV .non x
  | .bool b => eqV (.bl b) x
  | .int i _ => eqV (.int i) x
  | .str z _ => eqV (.str z) x
  | _ => false
theorem eqU_of {x y : V} {u : Value} (r : RelV y u) (f : flatV y = true) : eqU x u = eqV y x := by
  cases y with
  | non => cases r; rfl
  | bl b => cases r; rfl
  | int i => obtain ⟨t, rfl⟩ := r; rfl
  | str z => obtain ⟨t, rfl⟩ := r; rfl
  | _ => exact absurd (show false = true from f) Bool.false_ne_true
theorem any_eqU {x : V} : ∀ {xs : List V} {us : List Value}, Vals xs us → xs.all flatV = true → us.any (eqU x) = xs.any fun y => eqV y x
  | _, _, .nil, _ => rfl
  | y :: xs, u :: us, .cons r t, f => by
    rw [List.all_cons, Bool.and_eq_true] at f
    rw [List.any_cons, List.any_cons, eqU_of r f.1, any_eqU t f.2]
theorem mem_eqAt {A : Around} {s : Shared} {x : V} {v : Value} (rx : RelV x v) (fx : flatV x = true) : ∀ {xs : List V} {us : List Value}, Vals xs us → xs.all flatV = true → ∀ u ∈ us, SeqAt.EqAt A s u v (eqU x u)
  | _, _, .nil, _ => fun u hu => by cases hu
  | y :: xs, u :: us, .cons r t, f => fun u' hu => by
    rw [List.all_cons, Bool.and_eq_true] at f
    rcases List.mem_cons.mp hu with rfl | hu
    · rw [eqU_of r f.1]; exact eqAt_V r rx f.1 fx
    · exact mem_eqAt rx fx t f.2 u' hu
def inV (x : V) (xs : List V) : Bool := xs.any fun y => eqV y x
/-- x in a list or tuple of flat items -/
def rIn (K : PySem.W.Frag) (neg : Bool) : R2 := fun x y H Q => ∃ p xs, y = .ref p ∧ (SqL K H p xs ∨ SqT K H p xs) ∧ flatV x = true ∧ xs.all flatV = true ∧ Q (.bl (if neg then !inV x xs else inV x xs)) H
theorem op_in_seq : OpR X (compareOp .In) (rIn X.K false) := by
  intro pins s σ H x y v u Q I rx ry h
  obtain ⟨p, xs, rfl, hq, fx, fs, q⟩ := h
  cases ry
  rcases hq with hq | hq
  · obtain ⟨its, r, pl, hz⟩ := I.list hq
    refine SeqAt.in_listAt (eqU x) pl.isList (fun w hw => mem_eqAt rx fx r fs w (by simpa using hw)) ⟨.bl _, H, I, rfl, ?_⟩
    rw [show its.toArray.any (eqU x) = its.any (eqU x) by simp, any_eqU r fs]
    exact q
  · obtain ⟨its, r, pl, hz⟩ := I.tuple hq
    refine SeqAt.in_tupleAt (eqU x) pl (fun w hw => mem_eqAt rx fx r fs w (by simpa using hw)) ⟨.bl _, H, I, rfl, ?_⟩
    rw [show its.toArray.any (eqU x) = its.any (eqU x) by simp, any_eqU r fs]
    exact q
/-! ### len, list(x), tuple(x) of any list or tuple that is read -/
theorem call_len_seq : CallR X (.builtin "len") (fun xs H Q => ∃ p ys, xs = [.ref p] ∧ (SqL X.K H p ys ∨ SqT X.K H p ys) ∧ Q (.int ys.length) H) := by
  intro pins s σ H xs us Q I r h
  obtain ⟨p, ys, rfl, hq, q⟩ := h
  obtain ⟨u, rfl, rx⟩ := vals1 r
  cases rx
  have hn := line63
  rcases hq with hq | hq
  · obtain ⟨its, r', pl, hz⟩ := I.list hq
    have hlen := r'.length
    exact Calls.call_len_list pl.isList (by simp only [List.size_toArray] <;> omega) ⟨.int ys.length, H, I.tok _, ⟨s.toks + 1, by rw [List.size_toArray, hlen]⟩, q⟩
  · obtain ⟨its, r', pl, hz⟩ := I.tuple hq
    have hlen := r'.length
    exact len_tuple pl (by simp only [List.size_toArray] <;> omega) ⟨.int ys.length, H, I.tok _, ⟨s.toks + 1, by rw [List.size_toArray, hlen]⟩, q⟩
theorem call_list_of : CallR X (.type "list") (fun xs H Q => ∃ p ys, xs = [.ref p] ∧ (SqL X.K H p ys ∨ SqT X.K H p ys) ∧ ∀ l, H l = none → Q (.ref l) (upd H l (.lst ys))) := by
  intro pins s σ H xs us Q I r h
  obtain ⟨p, ys, rfl, hq, q⟩ := h
  obtain ⟨u, rfl, rx⟩ := vals1 r
  cases rx
  have fin : ∀ (its : List Value), Vals ys its → ys.length ≤ sizeLine → ∀ (h' : Heap) (c' : Nat), (∀ b o', s.heap.get? b = some o' → h'.get? b = some o') →
      h'.get? s.heap.objs.size = some { cls := .type "list", dict := none, data := .seq its.toArray c', slots := #[] } → EP X pins σ Q (.ref s.heap.objs.size) { s with heap := h' } := fun its r' hz h' c' kp e =>
    ⟨.ref s.heap.objs.size, _, I.laid (t' := s.toks) kp (Nat.le_refl _) (show ObjOk X.prog X.w _ h' _ (.lst ys) from ⟨hz, its, c', r', e⟩), rfl, q _ (I.hok.fresh (Nat.le_refl _))⟩
  rcases hq with hq | hq
  · obtain ⟨its, r', pl, hz⟩ := I.list hq
    have hlen := r'.length
    obtain ⟨o, ho, hc, n, hd⟩ := pl.isList
    exact call_list_seq p (.inl rfl) ho hc hd (fun h' c' kp e => fin its r' hz h' c' kp e) (by simp only [List.size_toArray] <;> omega)
  · obtain ⟨its, r', pl, hz⟩ := I.tuple hq
    have hlen := r'.length
    obtain ⟨o, ho, hc, n, hd⟩ := pl
    exact call_list_seq p (.inr rfl) ho hc hd (fun h' c' kp e => fin its r' hz h' c' kp e) (by simp only [List.size_toArray] <;> omega)
/-! ### the call of a builtin's method: o.m(..) -/
/-- the value is of that builtin type -/
def tyV (K : PySem.W.Frag) (T : String) (x : V) (H : Hp) : Prop := match x with
  | .str _ => T = "str"
  | .int _ => T = "int"
  | .ref p => (T = "list" ∧ ∃ xs, SqL K H p xs) ∨ (T = "tuple" ∧ ∃ o, K.lookup p = some o ∧ o.cls = .type "tuple" ∧ o.dict = none) ∨
      (T = "dict" ∧ ((∃ kvs, H p = some (.dK kvs)) ∨ ∃ kvs, H p = some (.dT kvs))) ∨ (T = "set" ∧ ∃ S n, H p = some (.set S n))
  | _ => False
theorem tyV_is {pins : List (Addr × Obj)} {σ : St} {H : Hp} {s : Shared} {T : String} {x : V} {v : Value} (I : Inv X pins σ H s) (r : RelV x v) (ty : tyV X.K T x H) :
    s.TypeIs v T ∧ ∀ a, v = .ref a → ∃ ob, s.heap.get? a = some ob ∧ ob.dict = none := by
  cases x with
  | str z =>
    obtain ⟨t, rfl⟩ := r
    cases (show T = "str" from ty)
    exact ⟨typeIs_str s z t, fun _ e => nomatch e⟩
  | int i =>
    obtain ⟨t, rfl⟩ := r
    cases (show T = "int" from ty)
    exact ⟨typeIs_int s i t, fun _ e => nomatch e⟩
  | ref p =>
    cases r
    rcases ty with ⟨rfl, xs, hq⟩ | ⟨rfl, o, hk, hc, hd⟩ | ⟨rfl, hk⟩ | ⟨rfl, S, n, hk⟩
    · obtain ⟨its, _, pl, _⟩ := I.list hq
      refine ⟨pl.isList.typeIs, fun a e => ?_⟩
      cases e
      obtain ⟨o, n, e, c, hd, _⟩ := pl
      exact ⟨o, e, hd⟩
    · refine ⟨⟨o, I.kIn p o hk, hc⟩, fun a e => ?_⟩
      cases e
      exact ⟨o, I.kIn _ o hk, hd⟩
    · have z : ∃ o, s.heap.get? p = some o ∧ o.ExactDict := by
        rcases hk with ⟨kvs, hk⟩ | ⟨kvs, hk⟩
        · obtain ⟨_, _, _, _, o, _, _, e, ex, _⟩ := I.hok p _ hk
          exact ⟨o, e, ex⟩
        · obtain ⟨_, _, _, _, o, _, _, e, ex, _⟩ := I.hok p _ hk
          exact ⟨o, e, ex⟩
      obtain ⟨o, e, ex⟩ := z
      refine ⟨⟨o, e, ex.1⟩, fun a e2 => ?_⟩
      cases e2
      exact ⟨o, e, ex.2.1⟩
    · obtain ⟨o, _, _, _, e, ex, _⟩ := I.hok p _ hk
      refine ⟨⟨o, e, ex.1⟩, fun a e2 => ?_⟩
      cases e2
      exact ⟨o, e, ex.2.1⟩
  | _ => exact False.elim ty
def tBM (K : PySem.W.Frag) (T : String) (r : V → List V → Hp → VK → Prop) (to : TE) (t : TA) : TE := fun σ H Q => to σ H fun x H1 => tyV K T x H1 ∧ t σ H1 fun xs H2 => r x xs H2 Q
variable {o e : Expr} {es : List Expr} {to : TE} {t : TA} {name : Str} {apos cpos : Pos} {T id : String} {r : V → List V → Hp → VK → Prop}
theorem pe_bm (pa : PlainAttrs T) (slot : Slot T name id) (hty : typeOf (.builtin id) = pure (.type "method_descriptor")) (hm : MtR X id r) (ho : PE X o to) (ha : PA X (e :: es) t)
    (hbase : attributeBase o name X.env (eval o X.env) = eval o X.env := by rfl)
    (hfew : ((backTo cpos (starEach (e :: es) X.env)).all (fun x => !x.1) && (backToKw cpos (keywordEach [] X.env)).all (fun x => x.1.isSome)
      && decide ((e :: es).length + ([] : List Keyword).length + (if ([] : List Keyword).isEmpty then 0 else 1) < 30)) = true := by rfl)
    (hline : (apos.endLine == cpos.line) = true := by rfl) (hs : starEach (e :: es) X.env = (false, eval e X.env) :: starEach es X.env := by rfl) (hplain : (backTo cpos (starEach es X.env)).any (·.1) = false := by rfl) :
    PE X (.Call (.Attribute o name apos) (e :: es) [] cpos) (tBM X.K T r to t) := by
  intro pins s σ H Q I h
  refine wpAny_Call_method_late hbase hfew hline rfl (thn (ho pins s σ H _ I h) fun v s1 ⟨x, H1, I1, r1, ty, q1⟩ => ?_)
  obtain ⟨h1, h2⟩ := tyV_is I1 r1 ty
  refine ⟨T, id, pa, slot, hty, h1, h2, ?_⟩
  have hA := ha cpos pins s1 σ H1 _ I1 q1
  rw [hs] at hA ⊢
  refine Calls.callWith_builtin (by show (false || (backTo cpos (starEach es X.env)).any (·.1)) = false; rw [hplain] <;> rfl) (Calls.evalArgs_plain ?_)
  exact thn hA fun us s2 ⟨vs, H2, I2, r2, q2⟩ => hm pins s2 σ H2 x vs v us Q I2 r1 r2 q2
/- xs.append(e), list.index on a module's tuple .. are MtR facts of 06m -/
end
end L2

namespace L2
open PySem PySem.Spec PyProof.Rows

def MtM (X : Cx) (id : String) (r : V → List V → Hp → VK → Prop) : Prop :=
  ∀ (pins : List (Addr × Obj)) (s : Shared) (σ : St) (H : Hp) (x : V) (xs : List V) (v : Value) (us : List Value) (Q : VK), Inv X pins σ H s → RelV x v → Vals xs us → r x xs H Q →
    wpAny (model X.prog X.w) X.A (call (.builtin id) (v :: us)) (EP X pins σ Q) X.xe s

/-! ### lists of values -/
theorem Vals.one : ∀ {x : V} {us : List Value}, Vals [x] us → ∃ u, us = [u] ∧ RelV x u
  | _, _, .cons r .nil => ⟨_, rfl, r⟩
section
variable {X : Cx} {pins : List (Addr × Obj)} {σ : St} {H : Hp} {s : Shared} {l b : Addr} {xs ys zs : List V}

/-! ### the two steps: a tracked list is rewritten, a new list is laid -/
theorem Inv.lset {its its' : List Value} {n : Nat} {f : Array Value → Array Value} {t' : Nat} (I : Inv X pins σ H s) (hH : H l = some (.lst xs))
    (e : s.heap.get? l = some { cls := .type "list", data := .seq its.toArray n }) (hf : f its.toArray = its'.toArray) (hv : Vals ys its') (hz : ys.length ≤ sizeLine) :
    Inv X pins σ (upd H l (.lst ys)) { s with heap := s.heap.update l (Obj.mapSeq f), toks := t' } := by
  have q := PySem.IsL.update e f
  rw [hf] at q
  refine I.write (x := l) (e := l) (by rw [hH]; exact trivial) (.inl rfl) (fun b' u hb hu => (Heap.get?_update_other s.heap (Obj.mapSeq f) (Ne.symm hb)).trans hu) ⟨_, q⟩ ?_
  exact ⟨hz, its', _, hv, q⟩
theorem Inv.lnew {its : List Value} {t' : Nat} (I : Inv X pins σ H s) (hv : Vals ys its) (hz : ys.length ≤ sizeLine) :
    Inv X pins σ (upd H s.heap.objs.size (.lst ys)) { s with heap := s.heap.push { cls := .type "list", data := .seq its.toArray }, toks := t' } :=
  I.laid (fun _ _ q => Heap.get?_push_of_some _ q) (Nat.le_refl _) ⟨hz, its, 0, hv, Heap.get?_push_size _ rfl⟩
theorem Inv.fresh (I : Inv X pins σ H s) : H s.heap.objs.size = none := I.hok.fresh (Nat.le_refl _)
theorem Inv.lstM (I : Inv X pins σ H s) (hH : H l = some (.lst xs)) : xs.length ≤ sizeLine ∧ ∃ (its : List Value) (n : Nat), Vals xs its ∧ xs.length = its.length ∧ s.heap.get? l = some { cls := .type "list", data := .seq its.toArray n } := by
  obtain ⟨z, its, n, r, e⟩ := I.hok l _ hH
  exact ⟨z, its, n, r, r.length, e⟩
end

section
variable {X : Cx}

/-! ### methods -/
def rAppend : V → List V → Hp → VK → Prop := fun x vs H Q => ∃ l xs y, x = .ref l ∧ vs = [y] ∧ H l = some (.lst xs) ∧ xs.length < sizeLine ∧ Q .non (upd H l (.lst (xs ++ [y])))
theorem mt_append : MtM X "list.append" rAppend := by
  intro pins s σ H x vs v us Q I rx rv h
  obtain ⟨l, xs, y, rfl, rfl, hH, hz, q⟩ := h
  cases rx
  obtain ⟨u, rfl, ru⟩ := rv.one
  obtain ⟨z, its, n, r, hl, e⟩ := I.lstM hH
  refine call_meets F.slot_list_append ⟨_, e, rfl⟩ F.entry_list_append (F.args_list_append_2 _ _) (PySem.list_append l its.toArray n u (by rw [List.size_toArray]; omega)) ⟨e, ?_⟩
  refine ⟨.non, _, I.lset (its' := its ++ [u]) hH e (by simp) (r.append (.cons ru .nil)) ?_, rfl, q⟩
  rw [List.length_append, List.length_singleton]
  omega
/-! ### list + list, list += list, list * int -/
def rCat : R2 := fun x y H Q => ∃ l b xs zs, x = .ref l ∧ y = .ref b ∧ H l = some (.lst xs) ∧ H b = some (.lst zs) ∧ xs.length + zs.length ≤ sizeLine ∧ ∀ p, H p = none → Q (.ref p) (upd H p (.lst (xs ++ zs)))
theorem op_cat : OpR X (binaryOp .Add) rCat := by
  intro pins s σ H x y v u Q I rx ry h
  obtain ⟨l, b, xs, zs, rfl, rfl, hH, hB, hz, q⟩ := h
  cases rx
  cases ry
  obtain ⟨z, its, n, r, hl, e⟩ := I.lstM hH
  obtain ⟨z2, its2, n2, r2, hl2, e2⟩ := I.lstM hB
  refine PySem.P.add_list e e2 ?_ (by rw [List.size_toArray, List.size_toArray]; omega)
  have ea : its.toArray ++ its2.toArray = (its ++ its2).toArray := by simp
  rw [ea]
  exact ⟨.ref _, _, I.lnew (t' := s.toks) (r.append r2) (by rw [List.length_append]; omega), rfl, q _ I.fresh⟩
/-! ### del xs[i] -/
end

/-! ### xs[a:b] = ys -/
section
variable {prog : Program} {w : World} {A : Around} {E : Value → Shared → Prop} {s : Shared}
end

section
variable {X : Cx}
end
end L2

namespace L2
open PySem PySem.Spec PyProof.Rows
/-! ### the library's walks over a list of ints, kept objects alone -/
section
variable {prog : Program} {w : World} {A : Around} {E : Value → Shared → Prop} {s : Shared} {l : Addr} {its : List Value} {ns : List Int} {Q : Value → Shared → Prop}
end

/-! ### the calls, by values (CallR of 03t; MtR of 06l) -/
section
variable {X : Cx}
/-! sorted, sort (fewer than 64 items: the library's own bound) -/
end

/-! ### list.index, flat items -/
section
variable {X : Cx}
end

/-! ### type(x) of an own instance; is, is not of a module's class -/
section
variable {X : Cx}
end

/-! ### any(xs), all(xs) of a list of bools -/
section
variable {X : Cx}
end

/-! ### == and != of data at any depth: none, bools, ints, texts, lists, tuples -/
mutual
inductive Dp (K : PySem.W.Frag) (H : Hp) : V → PyData → Prop
  | non : Dp K H .non .none
  | bl (b : Bool) : Dp K H (.bl b) (.bool b)
  | int (i : Int) : Dp K H (.int i) (.int i)
  | str (x : Str) : Dp K H (.str x) (.str x)
  | lst {a : Addr} {xs : List V} {ds : List PyData} : SqL K H a xs → DpAll K H xs ds → Dp K H (.ref a) (.list ds)
  | tup {a : Addr} {xs : List V} {ds : List PyData} : SqT K H a xs → DpAll K H xs ds → Dp K H (.ref a) (.tuple ds)
inductive DpAll (K : PySem.W.Frag) (H : Hp) : List V → List PyData → Prop
  | nil : DpAll K H [] []
  | cons {v : V} {vs : List V} {d : PyData} {ds : List PyData} : Dp K H v d → DpAll K H vs ds → DpAll K H (v :: vs) (d :: ds)
end
section
variable {X : Cx} {pins : List (Addr × Obj)} {σ : St} {H : Hp} {s : Shared}
mutual
theorem Dp.reads (I : Inv X pins σ H s) : ∀ (d : PyData) (v : V) (u : Value), Dp X.K H v d → RelV v u → ∃ as, Reads s.heap u d as
  | .none, _, _, h, r => by
    cases h
    cases r
    exact ⟨_, Reads.none⟩
  | .bool b, _, _, h, r => by
    cases h
    cases r
    exact ⟨_, Reads.bool b⟩
  | .int i, _, _, h, r => by
    cases h
    obtain ⟨t, rfl⟩ := r
    exact ⟨_, Reads.int i t⟩
  | .str x, _, _, h, r => by
    cases h
    obtain ⟨t, rfl⟩ := r
    exact ⟨_, Reads.str x t⟩
  | .list ds, _, _, h, r => by
    cases h with
    | lst hs ha =>
      cases r
      obtain ⟨its, rv, ⟨o, n, ho, hc, _, hd⟩, _⟩ := I.list hs
      obtain ⟨as, hr⟩ := Dp.readsAll I ds _ its ha rv
      exact ⟨_, Reads.list ho hc hd hr⟩
  | .tuple ds, _, _, h, r => by
    cases h with
    | tup hs ha =>
      cases r
      obtain ⟨its, rv, ⟨o, ho, hc, n, hd⟩, _⟩ := I.tuple hs
      obtain ⟨as, hr⟩ := Dp.readsAll I ds _ its ha rv
      exact ⟨_, Reads.tuple ho hc hd hr⟩
  | .dict _, _, _, h, _ => by cases h
theorem Dp.readsAll (I : Inv X pins σ H s) : ∀ (ds : List PyData) (vs : List V) (us : List Value), DpAll X.K H vs ds → Vals vs us → ∃ as, ReadsAll s.heap us ds as
  | [], _, _, h, r => by
    cases h
    cases r
    exact ⟨_, ReadsAll.nil⟩
  | d :: ds, _, _, h, r => by
    cases h with
    | cons h1 h2 =>
      cases r with
      | cons r1 r2 =>
        obtain ⟨as, q1⟩ := Dp.reads I d _ _ h1 r1
        obtain ⟨bs, q2⟩ := Dp.readsAll I ds _ _ h2 r2
        exact ⟨_, ReadsAll.cons q1 q2⟩
end
end
section
variable {X : Cx}
end
end L2

namespace L2
open PySem PySem.Spec PyProof.Rows
abbrev CellAt (h : Heap) (c : Addr) (v : Option Value) : Prop := h.IsCell c v
def relS (scope sc : Scope) : Scope :=
  { scope with names := scope.names.map fun (n, k) => if (k == .free && sc.kind == .function && sc.names.lookup n == some .cell) then (n, .cell) else (n, k) }

def cloFrom (cells : List (Str × Addr)) : List (Str × NameKind) → List (Str × Addr) → List (Str × Addr)
  | [], acc => acc
  | (n, k) :: r, acc => if k == .free then cloFrom cells r ((n, (cells.lookup n).getD 0) :: acc) else cloFrom cells r acc

theorem closure_loop (env : Env) (f : Str × NameKind → List (Str × Addr) → Sem (ForInStep (List (Str × Addr))))
    (hf : ∀ n k c, f (n, k) c = if k == .free then (do let a ← cellOf env n; pure (.yield ((n, a) :: c))) else pure (.yield c)) :
    ∀ (names : List (Str × NameKind)) (acc : List (Str × Addr)), (∀ y ∈ names, y.2 = .free → ∃ c, env.cells.lookup y.1 = some c) → forIn names acc f = pure (cloFrom env.cells names acc)
  | [], acc, _ => by rw [List.forIn_nil]; rfl
  | (n, k) :: r, acc, h => by
    rw [List.forIn_cons, hf]
    have ih := fun acc => closure_loop env f hf r acc fun y hy => h y (List.mem_cons_of_mem _ hy)
    unfold cloFrom
    by_cases hk : (k == NameKind.free) = true
    · rw [if_pos hk, if_pos hk]
      obtain ⟨c, hc⟩ := h (n, k) List.mem_cons_self (by simpa using hk)
      have e : cellOf env n = pure c := by unfold cellOf; rw [hc]
      rw [e]
      have e2 : (env.cells.lookup n).getD 0 = c := by rw [hc]; rfl
      rw [e2]
      exact ih _
    · rw [if_neg hk, if_neg hk]
      exact ih _
theorem closure_ok {scope : Scope} {env : Env} (h : ∀ y ∈ scope.names, y.2 = .free → ∃ c, env.cells.lookup y.1 = some c) : closureFor scope env = pure (cloFrom env.cells scope.names []) := by
  simp only [closureFor]
  rw [closure_loop env _ (fun n k c => rfl) scope.names [] h]
  rfl

theorem mem_lookup {α : Type} : ∀ {l : List (Str × α)} {n : Str} {c : α}, (n, c) ∈ l → ∃ c', l.lookup n = some c'
  | (k, v) :: r, n, c, h => by
    rw [List.lookup_cons]
    cases hb : n == k with
    | true => exact ⟨_, rfl⟩
    | false =>
      rcases List.mem_cons.mp h with e | h
      · cases e; simp at hb
      · exact mem_lookup h

theorem cloFrom_mem {cells : List (Str × Addr)} : ∀ {names : List (Str × NameKind)} {acc : List (Str × Addr)} {n : Str} {c : Addr}, (n, c) ∈ cloFrom cells names acc → (n, c) ∈ acc ∨ ((n, .free) ∈ names ∧ c = (cells.lookup n).getD 0)
  | [], _, _, _, h => .inl h
  | (m, k) :: r, acc, n, c, h => by
    unfold cloFrom at h
    split at h
    · rename_i hk
      have hk : k = .free := by simpa using hk
      rcases cloFrom_mem h with h | ⟨h1, h2⟩
      · rcases List.mem_cons.mp h with e | h
        · cases e; exact .inr ⟨hk ▸ List.mem_cons_self, rfl⟩
        · exact .inl h
      · exact .inr ⟨List.mem_cons_of_mem _ h1, h2⟩
    · rcases cloFrom_mem h with h | ⟨h1, h2⟩
      · exact .inl h
      · exact .inr ⟨List.mem_cons_of_mem _ h1, h2⟩
theorem cloFrom_acc {cells : List (Str × Addr)} : ∀ {names : List (Str × NameKind)} {acc : List (Str × Addr)} {p : Str × Addr}, p ∈ acc → p ∈ cloFrom cells names acc
  | [], _, _, h => h
  | (m, k) :: r, acc, p, h => by
    unfold cloFrom
    split
    · exact cloFrom_acc (List.mem_cons_of_mem _ h)
    · exact cloFrom_acc h
theorem cloFrom_has {cells : List (Str × Addr)} : ∀ {names : List (Str × NameKind)} {acc : List (Str × Addr)} {n : Str}, (n, .free) ∈ names → (n, (cells.lookup n).getD 0) ∈ cloFrom cells names acc
  | (m, k) :: r, acc, n, h => by
    unfold cloFrom
    rcases List.mem_cons.mp h with e | h
    · cases e
      exact cloFrom_acc List.mem_cons_self
    · split
      · exact cloFrom_has h
      · exact cloFrom_has h

theorem cells_mem : ∀ {names : List (Str × NameKind)} {h : Heap} {acc : List (Str × Addr)} {x : Str} {c : Addr}, (x, c) ∈ cellsFrom h.objs.size names acc →
    (x, c) ∈ acc ∨ ((x, .cell) ∈ names ∧ h.objs.size ≤ c ∧ CellAt (pushCells h names) c none)
  | [], _, _, _, _, h => .inl h
  | (n, k) :: r, h, acc, x, c, hm => by
    unfold cellsFrom at hm
    unfold pushCells
    split at hm
    · rename_i hk
      rw [if_pos hk]
      have hk : k = .cell := by simpa using hk
      rw [← Heap.size_push h { cls := .type "cell", data := .cell none }] at hm
      rcases cells_mem hm with hm | ⟨h1, h2, h3⟩
      · rcases List.mem_cons.mp hm with e | hm
        · cases e
          exact .inr ⟨hk ▸ List.mem_cons_self, Nat.le_refl _, _, pushCells_keeps r _ _ _ (Heap.get?_push_size _ rfl), rfl⟩
        · exact .inl hm
      · rw [Heap.size_push] at h2
        exact .inr ⟨List.mem_cons_of_mem _ h1, Nat.le_of_succ_le h2, h3⟩
    · rename_i hk
      rw [if_neg hk]
      rcases cells_mem hm with hm | ⟨h1, h2, h3⟩
      · exact .inl hm
      · exact .inr ⟨List.mem_cons_of_mem _ h1, h2, h3⟩
theorem cells_acc : ∀ {names : List (Str × NameKind)} {n : Nat} {acc : List (Str × Addr)} {p : Str × Addr}, p ∈ acc → p ∈ cellsFrom n names acc
  | [], _, _, _, h => h
  | (m, k) :: r, n, acc, p, h => by
    unfold cellsFrom
    split
    · exact cells_acc (List.mem_cons_of_mem _ h)
    · exact cells_acc h
theorem cells_has : ∀ {names : List (Str × NameKind)} {n : Nat} {acc : List (Str × Addr)} {x : Str}, (x, .cell) ∈ names → ∃ c, (x, c) ∈ cellsFrom n names acc
  | (m, k) :: r, n, acc, x, h => by
    unfold cellsFrom
    rcases List.mem_cons.mp h with e | h
    · cases e
      exact ⟨n, cells_acc List.mem_cons_self⟩
    · split
      · exact cells_has h
      · exact cells_has h
theorem cells_inj : ∀ {names : List (Str × NameKind)} {h : Heap} {acc : List (Str × Addr)} {x y : Str} {c : Addr}, (∀ p ∈ acc, p.2 < h.objs.size) → (∀ x y c, (x, c) ∈ acc → (y, c) ∈ acc → x = y) →
    (x, c) ∈ cellsFrom h.objs.size names acc → (y, c) ∈ cellsFrom h.objs.size names acc → x = y
  | [], _, _, _, _, _, _, hi, h1, h2 => hi _ _ _ h1 h2
  | (n, k) :: r, h, acc, x, y, c, hl, hi, h1, h2 => by
    unfold cellsFrom at h1 h2
    split at h1
    · rename_i hk
      rw [if_pos hk] at h2
      rw [← Heap.size_push h { cls := .type "cell", data := .cell none }] at h1 h2
      refine cells_inj (h := h.push _) (fun p hp => ?_) (fun x y c a b => ?_) h1 h2
      · rw [Heap.size_push]
        rcases List.mem_cons.mp hp with rfl | hp
        · exact Nat.lt_succ_self _
        · exact Nat.lt_succ_of_lt (hl p hp)
      · rcases List.mem_cons.mp a with e | a <;> rcases List.mem_cons.mp b with e' | b
        · cases e; cases e'; rfl
        · cases e; exact absurd (hl _ b) (Nat.lt_irrefl _)
        · cases e'; exact absurd (hl _ a) (Nat.lt_irrefl _)
        · exact hi _ _ _ a b
    · rename_i hk
      rw [if_neg hk] at h2
      exact cells_inj hl hi h1 h2

theorem newEnv_comp {M : Model} {A : Around} {E : Value → Shared → Prop} {s : Shared} {scope : Scope} {globals : Addr} {closure : List (Str × Addr)} {qual : Str} {func : Option Addr} {code : Value} {around : Env} {builtins : Addr} {Q : Env → Shared → Prop}
    (h : Q (newEnv scope s.heap.objs.size globals (cellsFrom (s.heap.objs.size + 1) scope.names closure) qual func code (some around) builtins)
      { s with heap := pushCells (s.heap.push { cls := .type "dict", data := .dict #[] }) scope.names }) :
    wpAny M A (newFunctionEnv scope globals closure [] qual func code (some around) builtins) Q E s := by
  simp only [newFunctionEnv, Option.isSome_some, if_true]
  refine wpAny_bind (wpAny_alloc ?_)
  refine wpAny_bind (wpAny_layCells _ (fun n k c => rfl) scope.names closure _ _ ?_)
  rw [show ({ s with heap := s.heap.push { cls := .type "dict", data := .dict #[] } } : Shared).heap.objs.size = s.heap.objs.size + 1 from Heap.size_push ..]
  rw [List.forIn_nil]
  exact wpAny_bind (wpAny_pure (wpAny_pure h))

/-- every name of the written scope, in the scope that runs -/
theorem lookup_relS {sc : Scope} : ∀ {names : List (Str × NameKind)} {x : Str} {k : NameKind},
    (names.map fun (n, k) => if (k == NameKind.free && sc.kind == .function && sc.names.lookup n == some .cell) then (n, NameKind.cell) else (n, k)).lookup x = some k →
    ∃ k', names.lookup x = some k' ∧ (k = k' ∨ (k' = .free ∧ k = .cell))
  | [], _, _, h => by simp at h
  | (n, k₀) :: r, x, k, h => by
    have ih := @lookup_relS sc r x k
    have h' : List.lookup x ((if (k₀ == NameKind.free && sc.kind == .function && sc.names.lookup n == some .cell) = true then (n, NameKind.cell) else (n, k₀)) :: (r.map _)) = some k := h
    cases hx : x == n with
    | true =>
      simp only [List.lookup_cons, hx]
      by_cases hc : (k₀ == NameKind.free && sc.kind == .function && sc.names.lookup n == some .cell) = true
      · rw [if_pos hc] at h'
        simp only [List.lookup_cons, hx] at h'
        cases h'
        simp only [Bool.and_eq_true, beq_iff_eq] at hc
        exact ⟨k₀, rfl, .inr ⟨hc.1.1, rfl⟩⟩
      · rw [if_neg hc] at h'
        simp only [List.lookup_cons, hx] at h'
        cases h'
        exact ⟨_, rfl, .inl rfl⟩
    | false =>
      simp only [List.lookup_cons, hx]
      by_cases hc : (k₀ == NameKind.free && sc.kind == .function && sc.names.lookup n == some .cell) = true
      · rw [if_pos hc] at h'
        simp only [List.lookup_cons, hx] at h'
        exact ih h'
      · rw [if_neg hc] at h'
        simp only [List.lookup_cons, hx] at h'
        exact ih h'
/-- the names of a comprehension's block: its own (with their places in N), or captured -/
structure BlkOk (N : List Str) (sc scope : Scope) (own : List (Str × Nat)) : Prop where
  kind : scope.kind = .function
  uniq : ∀ y ∈ scope.names, scope.names.lookup y.1 = some y.2
  ix : ∀ p ∈ own, N[p.2]? = some p.1
  free : ∀ y ∈ scope.names, y.2 = .free → sc.names.lookup y.1 = some .cell ∨ sc.names.lookup y.1 = some .free
  own : ∀ y ∈ scope.names, y.2 = .local ∨ y.2 = .cell → y.1 ∈ own.map (·.1) ∨ y.1 ∉ N
/-- the slots of the block's own names forgotten -/
def wipe (σ : St) : List Nat → St
  | [] => σ
  | v :: vs => (wipe σ vs).set v none
theorem wipe_length (σ : St) : ∀ vs : List Nat, (wipe σ vs).length = σ.length
  | [] => rfl
  | v :: vs => by unfold wipe; rw [List.length_set, wipe_length σ vs]
theorem wipe_some {σ : St} {i : Nat} {x : V} : ∀ {vs : List Nat}, (wipe σ vs)[i]? = some (some x) → σ[i]? = some (some x) ∧ i ∉ vs
  | [], h => ⟨h, by simp⟩
  | v :: vs, h => by
    unfold wipe at h
    by_cases hi : v = i
    · subst hi
      by_cases hv : v < (wipe σ vs).length
      · rw [List.getElem?_set_self hv] at h; cases h
      · rw [List.getElem?_eq_none (by simpa using hv)] at h; cases h
    · rw [List.getElem?_set_ne hi] at h
      obtain ⟨h1, h2⟩ := wipe_some h
      exact ⟨h1, by simp only [List.mem_cons, not_or]; exact ⟨fun e => hi e.symm, h2⟩⟩

/-- the context of a block that starts at s, its iterator's objects at fp -/
abbrev Cx.blk (X : Cx) (s : Shared) (H : Hp) (scope : Scope) (cenv : Env) (fp : List Addr) : Cx := { X with s_0 := s, H_0 := H, env := cenv, outer := X.stack, ex := fp, fn := fun x => scope.names.lookup x == some .cell, pn := [], xe := fun _ _ => False }
section
variable {X : Cx} {pins : List (Addr × Obj)} {σ : St} {H : Hp} {s : Shared}
theorem block_start {scope : Scope} {own : List (Str × Nat)} {fp : List Addr} (I : Inv X pins σ H s) (ok : BlkOk X.N X.env.scope scope own) (hN : X.N.Nodup) (hfp : ∀ b ∈ fp, FpOk X pins H b ∧ b < s.heap.objs.size) :
    Inv (X.blk s H scope (compEnvC scope (cellsFrom (s.heap.objs.size + 1) scope.names (cloFrom X.env.cells scope.names [])) s.heap.objs.size X.env) fp) [] (wipe σ (own.map (·.2))) H { s with heap := pushCells (s.heap.push { cls := .type "dict", data := .dict #[] }) scope.names } := by
  have hfree : ∀ y ∈ scope.names, y.2 = .free → ∃ c, X.env.cells.lookup y.1 = some c := fun y hy e => by
    rcases ok.free y hy e with k | k
    · exact I.ok.has _ (.inl k)
    · exact I.ok.has _ (.inr k)
  generalize hcenv : compEnvC scope (cellsFrom (s.heap.objs.size + 1) scope.names (cloFrom X.env.cells scope.names [])) s.heap.objs.size X.env = cenv
  have kp : ∀ b o, s.heap.get? b = some o → (pushCells (s.heap.push { cls := .type "dict", data := .dict #[] }) scope.names).get? b = some o := fun b o e => pushCells_keeps _ _ _ _ (Heap.get?_push_of_some _ e)
  have hL : cenv.locals = s.heap.objs.size := by rw [← hcenv]; rfl
  have hcl : cenv.cells = cellsFrom (s.heap.objs.size + 1) scope.names (cloFrom X.env.cells scope.names []) := by rw [← hcenv]; rfl
  have hsc : cenv.scope = relS scope X.env.scope := by rw [← hcenv]; rfl
  rw [← Heap.size_push s.heap { cls := .type "dict", data := .dict #[] }] at hcl
  have cm : ∀ {y c}, (y, c) ∈ cloFrom X.env.cells scope.names [] → X.env.cells.lookup y = some c ∧ c < s.heap.objs.size := fun {y c} hm => by
    rcases cloFrom_mem hm with hm | ⟨h1, rfl⟩
    · cases hm
    · obtain ⟨c, hc⟩ := hfree _ h1 rfl
      rw [hc]
      obtain ⟨w, z⟩ := I.cell _ _ hc
      exact ⟨rfl, z.lt⟩
  have mem : ∀ {y c}, cenv.cells.lookup y = some c → (X.env.cells.lookup y = some c ∧ c < s.heap.objs.size) ∨ (s.heap.objs.size + 1 ≤ c ∧ CellAt (pushCells (s.heap.push { cls := .type "dict", data := .dict #[] }) scope.names) c none) := fun {y c} e => by
    rw [hcl] at e
    rcases cells_mem (PySem.mem_of_lookup e) with hm | ⟨_, h2, h3⟩
    · exact .inl (cm hm)
    · rw [Heap.size_push] at h2; exact .inr ⟨h2, h3⟩
  have look : ∀ {y}, scope.names.lookup y = some .free → ∃ c, cenv.cells.lookup y = some c ∧ X.env.cells.lookup y = some c := fun {y} hl => by
    have hy : (y, NameKind.free) ∈ scope.names := PySem.mem_of_lookup hl
    obtain ⟨c', e'⟩ := mem_lookup (cells_acc (names := scope.names) (n := (s.heap.push { cls := .type "dict", data := .dict #[] }).objs.size) (cloFrom_has (cells := X.env.cells) (acc := []) hy))
    rw [← hcl] at e'
    refine ⟨c', e', ?_⟩
    rw [hcl] at e'
    rcases cells_mem (PySem.mem_of_lookup e') with hm | ⟨h1, _, _⟩
    · exact (cm hm).1
    · have := ok.uniq _ h1
      rw [hl] at this; cases this
  have okB : (X.blk s H scope cenv fp).Ok := by
    refine ⟨I.ok.mod, by show cenv.scope.kind = _; rw [hsc]; exact ok.kind, by show cenv.globals = _; rw [← hcenv]; exact I.ok.glob, by show cenv.builtins = _; rw [← hcenv]; exact I.ok.blt, by show s.heap.objs.size ≤ cenv.locals; rw [hL]; exact Nat.le_refl _,
      fun y z c e1 e2 => ?_, fun y hy => ?_, fun y c z e => ?_, I.ok.hd, I.ok.frames, .inl rfl, fun b hb => ⟨?_, fun y c e z => ?_⟩, I.bs, Nat.le_trans I.ok.bsz I.sz, fun b o e hb => ?_, fun b hb z => ?_, I.stack, I.stkFree⟩
    · have e1 : cenv.cells.lookup y = some c := e1
      have e2 : cenv.cells.lookup z = some c := e2
      rw [hcl] at e1 e2
      refine cells_inj (fun p hp => ?_) (fun y z c a b => I.ok.inj y z c (cm a).1 (cm b).1) (PySem.mem_of_lookup e1) (PySem.mem_of_lookup e2)
      rw [Heap.size_push]
      exact Nat.lt_succ_of_lt (cm (y := p.1) (c := p.2) hp).2
    · show ∃ c, cenv.cells.lookup y = some c
      have key : ∀ k, cenv.kindOf y = some k → (k = .cell ∨ k = .free) → ∃ c, cenv.cells.lookup y = some c := fun k hk hk' => by
        unfold Env.kindOf at hk
        rw [hsc] at hk
        obtain ⟨k', e, r⟩ := lookup_relS hk
        have : k' = .cell ∨ k' = .free := by
          rcases r with rfl | ⟨rfl, _⟩
          · exact hk'
          · exact .inr rfl
        rcases this with rfl | rfl
        · obtain ⟨c, hm⟩ := cells_has (n := (s.heap.push { cls := .type "dict", data := .dict #[] }).objs.size) (acc := cloFrom X.env.cells scope.names []) (PySem.mem_of_lookup e)
          obtain ⟨c', e'⟩ := mem_lookup hm
          exact ⟨c', by rw [hcl]; exact e'⟩
        · obtain ⟨c, h1, _⟩ := look e
          exact ⟨c, h1⟩
      rcases hy with hy | hy
      · exact key _ hy (.inl rfl)
      · exact key _ hy (.inr rfl)
    · have z : (scope.names.lookup y == some NameKind.cell) = true := z
      have z : scope.names.lookup y = some .cell := by simpa using z
      have e : cenv.cells.lookup y = some c := e
      rw [hcl] at e
      rcases cells_mem (PySem.mem_of_lookup e) with hm | ⟨_, h2, _⟩
      · rcases cloFrom_mem hm with hm | ⟨h1, _⟩
        · cases hm
        · have q := ok.uniq _ h1
          rw [z] at q; cases q
      · rw [Heap.size_push] at h2
        exact Nat.le_of_succ_le h2
    · show b ≠ cenv.locals
      rw [hL]; exact Nat.ne_of_lt (hfp b hb).2
    · have e : cenv.cells.lookup y = some c := e
      rcases mem e with ⟨h1, _⟩ | ⟨h1, _⟩
      · exact (hfp b hb).1.2.2.2.2.1 y c h1 z
      · have h2 : s.heap.objs.size + 1 ≤ b := by rw [← z]; exact h1
        exact absurd (Nat.lt_of_lt_of_le (hfp b hb).2 (Nat.le_of_succ_le h2)) (Nat.lt_irrefl _)
    · rcases (hfp b hb).1.2.2.2.1 with z | z
      · exact I.ok.noex b o e z
      · exact absurd (Nat.lt_of_lt_of_le (Heap.lt_size e) (Nat.le_trans I.ok.bsz z)) (Nat.lt_irrefl _)
    · rcases List.mem_cons.mp (I.stkSub b z) with z | z
      · exact (hfp b hb).1.2.1 z
      · exact (hfp b hb).1.2.2.1 z
  refine ⟨okB, rfl, I.bare, Un.kept kp, ⟨fun _ => none, ?_, fun i y av e1 e2 e3 => ?_⟩, fun y c e => ?_, ?_, fun y c e => ?_, fun p hp => ?_, I.hok.kept kp, by rw [wipe_length]; exact I.len⟩
  · show Heap.Ns _ cenv.locals _
    rw [hL]
    exact Heap.Ns.keeps (Heap.Ns.new ..) fun b o e => pushCells_keeps _ _ _ _ e
  · obtain ⟨e2, hne⟩ := wipe_some e2
    have hfr : scope.names.lookup y = some .free ∧ (cenv.kindOf y = some .cell ∨ cenv.kindOf y = some .free) := by
      have key : ∀ k, cenv.scope.names.lookup y = some k → k = .local ∨ k = .cell ∨ k = .free → scope.names.lookup y = some .free ∧ (cenv.kindOf y = some .cell ∨ cenv.kindOf y = some .free) := fun k hk hk' => by
        have hk0 := hk
        rw [hsc] at hk
        obtain ⟨k', e, r⟩ := lookup_relS hk
        have no : ¬ (k' = .local ∨ k' = .cell) := fun hh => by
          rcases ok.own _ (PySem.mem_of_lookup e) hh with e' | e'
          · obtain ⟨p, hp, hpy⟩ := List.mem_map.mp e'
            have e3 := ok.ix p hp
            have : p.1 = y := hpy
            rw [this] at e3
            exact hne (List.mem_map.mpr ⟨p, hp, nodup_ix hN e3 e1⟩)
          · exact e' (List.mem_of_getElem? e1)
        rcases r with rfl | ⟨rfl, rfl⟩
        · rcases hk' with rfl | rfl | rfl
          · exact absurd (.inl rfl) no
          · exact absurd (.inr rfl) no
          · exact ⟨e, .inr hk0⟩
        · exact ⟨e, .inl hk0⟩
      have e3 : Vis cenv.scope y := e3
      rcases e3 with e3 | e3 | e3
      · exact key _ e3 (.inl rfl)
      · exact key _ e3 (.inr (.inl rfl))
      · exact key _ e3 (.inr (.inr rfl))
    obtain ⟨m, hn, hl⟩ := I.loc
    have hvis : Vis X.env.scope y := (ok.free _ (PySem.mem_of_lookup hfr.1) rfl).elim (fun k => .inr (.inl k)) (fun k => .inr (.inr k))
    obtain ⟨w, r, q⟩ := hl i y av e1 e2 hvis
    refine ⟨w, r, .inr ⟨hfr.2, ?_⟩⟩
    obtain ⟨c, h1, h2⟩ := look hfr.1
    rcases q with ⟨k, _⟩ | ⟨_, c', e', z⟩
    · have k : X.env.scope.names.lookup y = some .local := k
      rcases ok.free _ (PySem.mem_of_lookup hfr.1) rfl with k' | k' <;> rw [show X.env.scope.names.lookup y = _ from k'] at k <;> cases k
    · rw [h2] at e'; cases e'
      exact ⟨c, h1, z.keeps kp⟩
  · have e : cenv.cells.lookup y = some c := e
    rcases mem e with ⟨h1, _⟩ | ⟨_, z⟩
    · obtain ⟨w, z⟩ := I.cell y c h1
      exact ⟨w, z.keeps kp⟩
    · exact ⟨_, z⟩
  · show H cenv.locals = none
    rw [hL]; exact I.hok.fresh (Nat.le_refl _)
  · have e : cenv.cells.lookup y = some c := e
    rcases mem e with ⟨h1, _⟩ | ⟨h1, _⟩
    · exact I.freeC y c h1
    · exact I.hok.fresh (Nat.le_of_succ_le h1)
  · exact absurd (show p ∈ ([] : List (Addr × Obj)) ++ [] from hp) (by simp)

/-- an item appended to a tracked list -/
theorem app_ok {E : Value → Shared → Prop} {D : Addr} {xs : List V} {y : V} {v : Value} {Q : Value → Shared → Prop} (I : Inv X pins σ H s) (hD : H D = some (.lst xs)) (hz : xs.length < sizeLine) (r : RelV y v)
    (h : ∀ s', Inv X pins σ (upd H D (.lst (xs ++ [y]))) s' → Q .none s') : wpAny (model X.prog X.w) X.A (call (.builtin "list.append") [.ref D, v]) Q E s := by
  obtain ⟨hz', its, n, ri, e⟩ := I.hok D _ hD
  have hl := ri.length
  refine append_at (hsz := by rw [List.size_toArray]; omega) e fun h' sb ho' => ?_
  refine h { s with heap := h' } (I.write (t' := s.toks) (by rw [hD]; trivial) (.inl rfl) (fun b u hb q => (sb.2 b hb).trans q) ⟨_, ho'⟩ ⟨by rw [List.length_append]; exact hz, its ++ [v], n + 1, ri.append (.cons r .nil), ?_⟩)
  rw [ho']
  simp

/-- a clause's tests -/
def PTs (X : Cx) (ifs : List Expr) (t : TT) : Prop :=
  ∀ (pins : List (Addr × Obj)) (s : Shared) (σ : St) (H : Hp) (Q : Bool → Hp → Prop), Inv X pins σ H s → t σ H Q →
    wpAny (model X.prog X.w) X.A (forIn ifs true fun c r => if r = true then do let ok ← isTrue c X.env (eval c X.env); pure (ForInStep.yield ok) else pure (ForInStep.yield r)) (TP X pins σ Q) X.xe s
def tYes : TT := fun _ H Q => Q true H
theorem pts_nil : PTs X [] tYes := fun _ _ _ H _ I h => wpAny_tests_nil ⟨H, I, h⟩
end

theorem thnF {α : Type} {t : Sem α} {Q Q' : α → Shared → Prop} {M : Model} {A : Around} {E : Value → Shared → Prop} {s : Shared} (h : wpAny M A t Q (fun _ _ => False) s) (hQ : ∀ a s, Q a s → Q' a s) : wpAny M A t Q' E s := wpAny_mono h hQ fun _ _ z => False.elim z

/-- the loop of a list comprehension's block, the target of any form (codeAny_compLoop_tests asks a target that no tuple goes to; statement and proof follow it, PyProof/CompMap.lean:41-61, with the step letOwnedTupleGo kept) -/
theorem compLoop_any {prog : Program} {w : World} {A : Around} {R : Result → Shared → Prop} {s : Shared} {elt target iter : Expr} {ifs : List Expr} {scope : Scope} {pos : Pos} {it acc : Value} {env : Env} (I : Nat → Shared → Prop)
    (turn : ∀ n s, I n s → wpAny (model prog w) A (pyNext it) (fun r s₁ => match r with
      | none => R (.ok .next) s₁
      | some v => wpAny (model prog w) A (letOwnedTupleGo target it v) (fun _ s₁' => wpAny (model prog w) A (assign target env v) (fun _ s₂ =>
          wpAny (model prog w) A (forIn ifs true fun c r => if r = true then do let ok ← isTrue c env (eval c env); pure (ForInStep.yield ok) else pure (ForInStep.yield r)) (fun ok s₃ =>
            if ok = true then wpAny (model prog w) A (eval elt env) (fun x s₄ =>
              wpAny (model prog w) A (call (.builtin "list.append") [acc, x]) (fun _ s₅ => ∃ m, m < n ∧ I m s₅) (notedBy (model prog w) A env fun e s' => R (.error e) s') s₄) (notedBy (model prog w) A env fun e s' => R (.error e) s') s₃
            else ∃ m, m < n ∧ I m s₃) (notedBy (model prog w) A env fun e s' => R (.error e) s') s₂) (notedBy (model prog w) A env fun e s' => R (.error e) s') s₁') (notedBy (model prog w) A env fun e s' => R (.error e) s') s₁) (notedBy (model prog w) A env fun e s' => R (.error e) s') s)
    (n : Nat) (h : I n s) :
    codeAny (model prog w) A (.compLoop (.ListComp elt [⟨target, iter, ifs, 0⟩] scope pos) 0 it acc env) R s := by
  refine codeAny_loop rfl I (fun n s hI => ?_) n h
  show wpAny _ A ((compTurn (.ListComp elt [⟨target, iter, ifs, 0⟩] scope pos) 0 it acc env).onRaise (fun x => do noteFrame x env; theTreesLotGoes x)) _ _ s
  refine wpAny_noted ?_
  rw [compTurn_list]
  refine wpAny_bind (wpAny_standAt (wpAny_bind (wpAny_mono (turn n s hI) (fun r s₁ h₁ => ?_) fun _ _ h' => h')))
  cases r with
  | none => exact wpAny_pure h₁
  | some v =>
    refine wpAny_bind (wpAny_mono h₁ (fun _ s₁' h₁' => ?_) fun _ _ h' => h')
    refine wpAny_bind (wpAny_mono h₁' (fun _ s₂ h₂ => wpAny_bind (wpAny_mono h₂ (fun ok s₃ h₃ => ?_) fun _ _ h' => h')) fun _ _ h' => h')
    cases ok with
    | false => exact wpAny_pure ⟨rfl, h₃⟩
    | true =>
      exact wpAny_bind (wpAny_bind (wpAny_mono h₃ (fun x s₄ h₄ => wpAny_bind (wpAny_mono h₄ (fun _ s₅ h₅ => wpAny_pure (wpAny_pure ⟨rfl, h₅⟩)) fun _ _ h' => h')) fun _ _ h' => h'))

section
variable {X : Cx}
/-- [elt for target in iter if ..]: D the new list; W by the turn and a measure, Nx what a turn is to reach -/
def tLc (wi : TI) (g : TG) (tt : TT) (te : TE) (vs : List Nat) : TE := fun σ H Q => wi σ H fun J H1 => ∀ D, H1 D = none → ∃ W : Nat → Nat → Hp → Prop, (∃ m, W 0 m (upd H1 D (.lst []))) ∧ ∀ i m H, W i m H →
  (J.stop i H ∧ Q (.ref D) H) ∨ (J.go i H ∧ ∃ Nx : Hp → Prop, (∀ H', Nx H' → ∃ m', m' < m ∧ W (i + 1) m' H') ∧ ∀ x H', J.yld i H x H' → g x (wipe σ vs) H' fun σ2 H2 => wipe σ2 vs = wipe σ vs ∧ tt σ2 H2 fun b H3 =>
    if b = true then te σ2 H3 fun y H4 => ∃ acc, H4 D = some (.lst acc) ∧ acc.length < sizeLine ∧ Nx (upd H4 D (.lst (acc ++ [y]))) else Nx H3)
theorem lc_core {pins : List (Addr × Obj)} {s : Shared} {σ : St} {H : Hp} {Q : VK} {elt tg iter : Expr} {ifs : List Expr} {scope : Scope} {own : List (Str × Nat)} {pos pos' : Pos} {wi : TI} {g : TG} {tt : TT} {te : TE} {use : Option (Value → Sem Unit)} {Qf : Value → Shared → Prop}
    (hc : X.calm = true) (hN : X.N.Nodup) (I : Inv X pins σ H s) (hi : PI X tg iter wi) (ok : BlkOk X.N X.env.scope scope own)
    (hg : ∀ (s : Shared) (H : Hp) (C : Addr) (cl : List (Str × Addr)) (fp : List Addr), PG (X.blk s H scope (compEnvC scope cl C X.env) fp) tg g) (ht : ∀ (s : Shared) (H : Hp) (C : Addr) (cl : List (Str × Addr)) (fp : List Addr), PTs (X.blk s H scope (compEnvC scope cl C X.env) fp) ifs tt)
    (he : ∀ (s : Shared) (H : Hp) (C : Addr) (cl : List (Str × Addr)) (fp : List Addr), PE (X.blk s H scope (compEnvC scope cl C X.env) fp) elt te) (hs : ∀ x, foldedSetIterable iter X.env x = pure x)
    (h : tLc wi g tt te (own.map (·.2)) σ H Q)
    (hRR : ∀ D C s' m H', Inv X pins σ H' s' → Q (.ref D) H' → s'.heap.Ns C m → FpOk X pins H' C → compPost (model X.prog X.w) X.A X.xe use Qf (.ref D) C (.ok .next) s') :
    wpAny (model X.prog X.w) X.A (comprehension (.ListComp elt [⟨tg, iter, ifs, 0⟩] scope pos) scope X.env pos' (newList []) false (eval iter X.env) use) Qf X.xe s := by
  have hfree : ∀ y ∈ scope.names, y.2 = .free → ∃ c, X.env.cells.lookup y.1 = some c := fun y hy e => by
    rcases ok.free y hy e with k | k
    · exact I.ok.has _ (.inl k)
    · exact I.ok.has _ (.inr k)
  refine wpAny_comprehension_free (use := use) rfl hs (closure_ok hfree) ok.kind (fun y hy e => by rw [ok.uniq y hy, e])
    (thn (hi pins s σ H _ I h) fun xv s1 hx => thn hx fun itv s2 h2 => ?_)
  obtain ⟨it, fp, tn, J, H2, e, I2, T, st2, f2, q⟩ := h2
  subst e
  refine wpAny_newObj_type (newEnv_comp ?_) (by show 0 ≤ sizeLine; decide)
  generalize hD : s2.heap.objs.size = D
  have hDn : H2 D = none := I2.hok.fresh (Nat.le_of_eq hD)
  obtain ⟨W, ⟨m0, w0⟩, turn⟩ := q D hDn
  -- the new list
  generalize hs3 : ({ s2 with heap := s2.heap.push { cls := .type "list", data := .seq ([] : List Value).toArray } } : Shared) = s3
  have I3 : Inv X pins σ (upd H2 D (.lst [])) s3 := by
    rw [← hs3]
    refine I2.laid (t' := s2.toks) (fun b o e => Heap.get?_push_of_some _ e) (Nat.le_of_eq hD) ⟨Nat.zero_le _, [], 0, .nil, ?_⟩
    rw [← hD]
    exact Heap.get?_push_size _ rfl
  have h3 : s3.heap = s2.heap.push { cls := .type "list", data := .seq ([] : List Value).toArray } := by rw [← hs3]
  have sz : ∀ b ∈ fp, b < s2.heap.objs.size := fun b hb => by
    obtain ⟨o, e, _⟩ := T.obj _ _ st2 b hb
    exact Heap.lt_size e
  have f3 : ∀ b ∈ fp, FpOk X pins (upd H2 D (.lst [])) b ∧ b < s3.heap.objs.size := fun b hb => by
    have hlt := sz b hb
    refine ⟨⟨?_, (f2 b hb).2⟩, by rw [h3, Heap.size_push]; exact Nat.lt_succ_of_lt hlt⟩
    rw [upd_ne (by rw [← hD]; exact Nat.ne_of_lt hlt)]
    exact (f2 b hb).1
  have st3 : tn 0 s3.heap := T.keep _ _ _ st2 fun b _ o e => by rw [h3]; exact Heap.get?_push_of_some _ e
  have I4 := block_start I3 ok hN f3
  have pg := hg s3 (upd H2 D (.lst [])) s3.heap.objs.size (cellsFrom (s3.heap.objs.size + 1) scope.names (cloFrom X.env.cells scope.names [])) fp
  have pt := ht s3 (upd H2 D (.lst [])) s3.heap.objs.size (cellsFrom (s3.heap.objs.size + 1) scope.names (cloFrom X.env.cells scope.names [])) fp
  have pe := he s3 (upd H2 D (.lst [])) s3.heap.objs.size (cellsFrom (s3.heap.objs.size + 1) scope.names (cloFrom X.env.cells scope.names [])) fp
  show codeAny _ _ (.compStart (.ListComp elt [⟨tg, iter, ifs, 0⟩] scope pos) 0 (.ref it) (.ref D) (compEnvC scope (cellsFrom (s3.heap.objs.size + 1) scope.names (cloFrom X.env.cells scope.names [])) s3.heap.objs.size X.env)) (compPost (model X.prog X.w) X.A X.xe use Qf (.ref D) s3.heap.objs.size) { s3 with heap := pushCells (s3.heap.push { cls := .type "dict", data := .dict #[] }) scope.names }
  have nfp : ∀ b ∈ fp, (upd H2 D (.lst [])) b = none := fun b hb => (f3 b hb).1.1
  generalize hce : compEnvC scope (cellsFrom (s3.heap.objs.size + 1) scope.names (cloFrom X.env.cells scope.names [])) s3.heap.objs.size X.env = ce at I4 pg pt pe ⊢
  have cL : ce.locals = s3.heap.objs.size := by subst hce; rfl
  generalize hH3 : upd H2 D (.lst []) = H3 at I3 I4 pg pt pe w0 nfp f3
  generalize hs4 : ({ s3 with heap := pushCells (s3.heap.push { cls := .type "dict", data := .dict #[] }) scope.names } : Shared) = s4 at I4 ⊢
  have st4 : tn 0 s4.heap := T.keep _ _ _ st3 fun b _ o e => by rw [← hs4]; exact pushCells_keeps _ _ _ _ (Heap.get?_push_of_some _ e)
  have stat : ∀ {σ' : St} {H' : Hp} {s' : Shared}, Inv (X.blk s3 H3 scope ce fp) [] σ' H' s' → (∀ b ∈ fp, H' b = none) → ∀ b ∈ fp, FpOk (X.blk s3 H3 scope ce fp) [] H' b := fun {σ' H' s'} I' hn b hb =>
    ⟨hn b hb, (I'.ok.exf b hb).1, I'.ok.exfs b hb, .inl hb, fun x c e => (I'.ok.exf b hb).2 x c e, fun p hp => absurd (show p ∈ ([] : List (Addr × Obj)) ++ [] from hp) (by simp)⟩
  have loop : codeAny (model X.prog X.w) X.A (.compLoop (.ListComp elt [⟨tg, iter, ifs, 0⟩] scope pos) 0 (.ref it) (.ref D) ce) (compPost (model X.prog X.w) X.A X.xe use Qf (.ref D) s3.heap.objs.size) s4 := by
    refine compLoop_any (fun n s' => ∃ i H', Inv (X.blk s3 H3 scope ce fp) [] (wipe σ (own.map (·.2))) H' s' ∧ tn i s'.heap ∧ (∀ b ∈ fp, H' b = none) ∧ W i n H') ?_ m0 ⟨0, H3, I4, st4, nfp, w0⟩
    rintro n s5 ⟨i, H5, I5, st5, n5, w5⟩
    rcases turn i n H5 w5 with ⟨stop, qq⟩ | ⟨go, Nx, hNx, step⟩
    · have td := T.done (X.blk s3 H3 scope ce fp) rfl rfl rfl hc i [] s5 _ H5 (fun _ _ => False) I5 (stat I5 n5) st5 stop
      refine thnF td fun r s6 ⟨hr, I6⟩ => ?_
      subst hr
      -- back in the def's context
      have I7 : Inv X pins σ H5 s6 := I3.call' (ch := fp) I6.os I6.base I6.hok I6.bare fun b hb => ⟨(f3 b hb).1.2.2.2.1, (f3 b hb).1.2.1, (f3 b hb).1.2.2.2.2.1, (f3 b hb).1.2.2.2.2.2⟩
      have nC : H5 s3.heap.objs.size = none := by
        have z : H5 ce.locals = none := I6.free
        rw [cL] at z
        exact z
      obtain ⟨m, hn, _⟩ := I6.loc
      have hn : s6.heap.Ns ce.locals m := hn
      rw [cL] at hn
      exact hRR D s3.heap.objs.size s6 m H5 I7 qq hn (I3.fpOk (Nat.le_refl _) nC)
    · have ti := T.item (X.blk s3 H3 scope ce fp) rfl rfl rfl hc i [] s5 _ H5 (fun _ _ => False) I5 (stat I5 n5) st5 go
      refine thnF ti fun r s6 ⟨u, hr, h6⟩ => ?_
      subst hr
      refine thnF h6 fun _ s7 ⟨x, H7, I7, r7, y7, st7, n7⟩ => ?_
      have I7' := I7.pinned (stat I7 n7) (T.obj _ _ st7)
      refine thnF (pg _ s7 _ H7 x u _ I7' r7 (step x H7 y7)) fun _ s8 ⟨σ8, H8, I8, hw8, q8⟩ => ?_
      refine thnF (pt _ s8 σ8 H8 _ I8 q8) fun b s9 ⟨H9, I9, q9⟩ => ?_
      -- the turn's end
      have fin : ∀ {s' : Shared} {H' : Hp}, Inv (X.blk s3 H3 scope ce fp) ([] ++ pinsAt fp s7.heap) σ8 H' s' → Nx H' → ∃ m, m < n ∧ ∃ i H', Inv (X.blk s3 H3 scope ce fp) [] (wipe σ (own.map (·.2))) H' s' ∧ tn i s'.heap ∧ (∀ b ∈ fp, H' b = none) ∧ W i m H' := fun {s' H'} I' nx => by
        obtain ⟨m', hm, w'⟩ := hNx H' nx
        have pin' : ∀ b ∈ fp, ∀ o, s7.heap.get? b = some o → s'.heap.get? b = some o ∧ H' b = none := fun b hb o e =>
          let z := I'.pin (b, o) (List.mem_append_right _ (List.mem_append_right _ (mem_pinsAt hb e)))
          ⟨z.1, z.2.1⟩
        have hl : (wipe σ (own.map (·.2))).length = σ8.length := by rw [← hw8, wipe_length]
        refine ⟨m', hm, i + 1, H', (I'.unpinned (pins := [])).weak hl (fun j v e => ?_), T.keep _ _ _ st7 fun b hb o e => (pin' b hb o e).1, fun b hb => ?_, w'⟩
        · rw [← hw8] at e
          exact (wipe_some e).1
        · obtain ⟨o, e, _⟩ := T.obj _ _ st7 b hb
          exact (pin' b hb o e).2
      cases b with
      | false =>
        simp only [Bool.false_eq_true, if_false] at q9 ⊢
        exact fin I9 q9
      | true =>
        simp only [if_true] at q9 ⊢
        refine thnF (pe _ s9 σ8 H9 _ I9 q9) fun z s10 ⟨yv, H10, I10, r10, acc, hD10, hz10, nx⟩ => ?_
        exact app_ok (X := X.blk s3 H3 scope ce fp) I10 hD10 hz10 r10 fun s11 I11 => fin I11 nx
  exact codeAny_compStart_list loop (T.self X.A 0 _ _ _ st4 loop)
/-- as a value -/
theorem pe_lc {elt tg iter : Expr} {ifs : List Expr} {scope : Scope} {own : List (Str × Nat)} {pos : Pos} {wi : TI} {g : TG} {tt : TT} {te : TE} (hc : X.calm = true) (hN : X.N.Nodup) (hi : PI X tg iter wi) (ok : BlkOk X.N X.env.scope scope own)
    (hg : ∀ (s : Shared) (H : Hp) (C : Addr) (cl : List (Str × Addr)) (fp : List Addr), PG (X.blk s H scope (compEnvC scope cl C X.env) fp) tg g) (ht : ∀ (s : Shared) (H : Hp) (C : Addr) (cl : List (Str × Addr)) (fp : List Addr), PTs (X.blk s H scope (compEnvC scope cl C X.env) fp) ifs tt)
    (he : ∀ (s : Shared) (H : Hp) (C : Addr) (cl : List (Str × Addr)) (fp : List Addr), PE (X.blk s H scope (compEnvC scope cl C X.env) fp) elt te) (hs : ∀ x, foldedSetIterable iter X.env x = pure x := by intro _; rfl) :
    PE X (.ListComp elt [⟨tg, iter, ifs, 0⟩] scope pos) (tLc wi g tt te (own.map (·.2))) := by
  intro pins s σ H Q I h
  rw [eval_ListComp]
  refine lc_core hc hN I hi ok hg ht he hs h fun D C s' m H' I' q hn f => ⟨m, hn, fun h'' sb => ?_⟩
  obtain ⟨f0, f1, f2, f3, f4, f5⟩ := f
  exact ⟨.ref D, H', I'.turned (t' := s'.toks) (fun b o hb e => (sb.2 b hb).trans e) f0 f1 f3 f4 f5, rfl, q⟩
/-- name = [..] on one line, the name a local -/
theorem ps_setLc {i : Nat} {y : Str} {py : Pos} {elt tg iter : Expr} {ifs : List Expr} {scope : Scope} {own : List (Str × Nat)} {pos spos : Pos} {wi : TI} {g : TG} {tt : TT} {te : TE} (hc : X.calm = true) (hN : X.N.Nodup) (hy : X.N[i]? = some y) (hyl : X.env.scope.names.lookup y = some .local)
    (hsw : swapsWith (.ListComp elt [⟨tg, iter, ifs, 0⟩] scope pos) (some (.Name y py)) spos.line X.env = pure true) (hi : PI X tg iter wi) (ok : BlkOk X.N X.env.scope scope own)
    (hg : ∀ (s : Shared) (H : Hp) (C : Addr) (cl : List (Str × Addr)) (fp : List Addr), PG (X.blk s H scope (compEnvC scope cl C X.env) fp) tg g) (ht : ∀ (s : Shared) (H : Hp) (C : Addr) (cl : List (Str × Addr)) (fp : List Addr), PTs (X.blk s H scope (compEnvC scope cl C X.env) fp) ifs tt)
    (he : ∀ (s : Shared) (H : Hp) (C : Addr) (cl : List (Str × Addr)) (fp : List Addr), PE (X.blk s H scope (compEnvC scope cl C X.env) fp) elt te) (hs : ∀ x, foldedSetIterable iter X.env x = pure x := by intro _; rfl) :
    PS X (.Assign [.Name y py] (.ListComp elt [⟨tg, iter, ifs, 0⟩] scope pos) spos) (tAsg (tLc wi g tt te (own.map (·.2))) (gName i)) := by
  intro pins s σ H D I h
  rw [exec_Assign_Name_used _ _ _ _ hsw]
  refine wpAny_bind (wpAny_standAt (wpAny_bind ?_))
  show wpAny _ X.A (do let _ ← comprehension (.ListComp elt [⟨tg, iter, ifs, 0⟩] scope pos) scope X.env (firstIterPos [⟨tg, iter, ifs, 0⟩] pos) (newList []) false (eval iter X.env) (some (assign (.Name y py) X.env))) _ _ s
  have h : tLc wi g tt te (own.map (·.2)) σ H (fun x H1 => gName i x σ H1 D.nx) := h
  refine wpAny_bind (thn (lc_core (Qf := fun _ s' => SP X pins D .next s') hc hN I hi ok hg ht he hs h fun L C s' m H' I' q hn f => ?_) fun _ s' hq => wpAny_pure (wpAny_pure hq))
  show wpAny _ _ (assign (.Name y py) X.env (.ref L)) _ _ _
  refine wpAny_assign_Name (store_ok2 (v := V.ref L) I' hN hy (.inl hyl) rfl (fun s2 I2 ⟨a, sb, ha⟩ => ?_) (.inr hyl))
  obtain ⟨f0, f1, f2, f3, f4, f5⟩ := f
  have haC : C ≠ a := by
    rcases ha with z | z
    · rw [z]; exact f1
    · exact fun e => f4 y a z e.symm
  refine ⟨m, hn.sameBut sb haC, fun h3 sb3 => ?_⟩
  exact ⟨_, H', I2.turned (t' := s2.toks) (fun b o hb e => (sb3.2 b hb).trans e) f0 f1 f3 f4 f5, q⟩
theorem sw_true {elt : Expr} {gs : List Comprehension} {scope : Scope} {pos py : Pos} {y : Str} {l : Nat} {env : Env} (hk : env.scope.kind = .function) (hy : env.scope.names.lookup y = some .local) (hl : (py.line == pos.line) = true)
    (ha : (scope.names.any fun (n, k) => n == y && (k == .local || k == .cell)) = false) : swapsWith (.ListComp elt gs scope pos) (some (.Name y py)) l env = pure true := by
  have ky : env.kindOf y = some .local := hy
  have hb : env.blockKind = .function := by unfold Env.blockKind; rw [hk]; rfl
  unfold swapsWith
  simp only [hb, ky, ha, Expr.pos, hl]
  rfl
end

/-! ### the forms one uses -/
/-- over a range: Pv by the turn and the heap (the new list at D within) -/
theorem lc_range {lo : Int} {n : Nat} {g : TG} {tt : TT} {te : TE} {vs : List Nat} {σ : St} {H1 : Hp} {D : Addr} {Qd : Hp → Prop} (Pv : Nat → Hp → Prop) (h0 : Pv 0 (upd H1 D (.lst [])))
    (hs : ∀ i H, i < n → Pv i H → g (.int (lo + i)) (wipe σ vs) H fun σ2 H2 => wipe σ2 vs = wipe σ vs ∧ tt σ2 H2 fun b H3 =>
      if b = true then te σ2 H3 fun y H4 => ∃ acc, H4 D = some (.lst acc) ∧ acc.length < sizeLine ∧ Pv (i + 1) (upd H4 D (.lst (acc ++ [y]))) else Pv (i + 1) H3) (hd : ∀ H, Pv n H → Qd H) :
    ∃ W : Nat → Nat → Hp → Prop, (∃ m, W 0 m (upd H1 D (.lst []))) ∧ ∀ i m H, W i m H →
      ((Itr lo n).stop i H ∧ Qd H) ∨ ((Itr lo n).go i H ∧ ∃ Nx : Hp → Prop, (∀ H', Nx H' → ∃ m', m' < m ∧ W (i + 1) m' H') ∧ ∀ x H', (Itr lo n).yld i H x H' → g x (wipe σ vs) H' fun σ2 H2 => wipe σ2 vs = wipe σ vs ∧ tt σ2 H2 fun b H3 =>
        if b = true then te σ2 H3 fun y H4 => ∃ acc, H4 D = some (.lst acc) ∧ acc.length < sizeLine ∧ Nx (upd H4 D (.lst (acc ++ [y]))) else Nx H3) := by
  refine ⟨fun i m H => m = n - i ∧ i ≤ n ∧ Pv i H, ⟨n, by simp, Nat.zero_le _, h0⟩, ?_⟩
  rintro i m H ⟨rfl, hi, p⟩
  by_cases hlt : i < n
  · refine .inr ⟨hlt, Pv (i + 1), fun H' p' => ⟨n - (i + 1), by omega, rfl, hlt, p'⟩, fun x H' y => ?_⟩
    obtain ⟨e, y⟩ := y
    subst e y
    exact hs i _ hlt p
  · have e : i = n := by omega
    subst e
    exact .inl ⟨Nat.le_refl _, hd H p⟩
/-- over a list that the block leaves as it is -/
theorem lc_list {K : PySem.W.Frag} {a : Addr} {xs : List V} {g : TG} {tt : TT} {te : TE} {vs : List Nat} {σ : St} {H1 : Hp} {D : Addr} {Qd : Hp → Prop} (Pv : Nat → Hp → Prop) (h0 : Pv 0 (upd H1 D (.lst []))) (hl : ∀ i H, i ≤ xs.length → Pv i H → SqL K H a xs)
    (hs : ∀ i x H, xs[i]? = some x → Pv i H → g x (wipe σ vs) H fun σ2 H2 => wipe σ2 vs = wipe σ vs ∧ tt σ2 H2 fun b H3 =>
      if b = true then te σ2 H3 fun y H4 => ∃ acc, H4 D = some (.lst acc) ∧ acc.length < sizeLine ∧ Pv (i + 1) (upd H4 D (.lst (acc ++ [y]))) else Pv (i + 1) H3) (hd : ∀ H, Pv xs.length H → Qd H) :
    ∃ W : Nat → Nat → Hp → Prop, (∃ m, W 0 m (upd H1 D (.lst []))) ∧ ∀ i m H, W i m H →
      ((Itl K a).stop i H ∧ Qd H) ∨ ((Itl K a).go i H ∧ ∃ Nx : Hp → Prop, (∀ H', Nx H' → ∃ m', m' < m ∧ W (i + 1) m' H') ∧ ∀ x H', (Itl K a).yld i H x H' → g x (wipe σ vs) H' fun σ2 H2 => wipe σ2 vs = wipe σ vs ∧ tt σ2 H2 fun b H3 =>
        if b = true then te σ2 H3 fun y H4 => ∃ acc, H4 D = some (.lst acc) ∧ acc.length < sizeLine ∧ Nx (upd H4 D (.lst (acc ++ [y]))) else Nx H3) := by
  refine ⟨fun i m H => m = xs.length - i ∧ i ≤ xs.length ∧ Pv i H, ⟨xs.length, by simp, Nat.zero_le _, h0⟩, ?_⟩
  rintro i m H ⟨rfl, hi, p⟩
  have q := hl i H hi p
  by_cases hlt : i < xs.length
  · refine .inr ⟨⟨xs, xs[i], q, by simp [hlt]⟩, Pv (i + 1), fun H' p' => ⟨xs.length - (i + 1), by omega, rfl, hlt, p'⟩, fun x H' y => ?_⟩
    obtain ⟨e, y⟩ := y
    subst e
    exact hs i x _ (y xs q) p
  · have e : i = xs.length := by omega
    subst e
    exact .inl ⟨⟨xs, q, Nat.le_refl _⟩, hd H p⟩
/-- over a tuple -/
theorem lc_tup {K : PySem.W.Frag} {a : Addr} {xs : List V} {g : TG} {tt : TT} {te : TE} {vs : List Nat} {σ : St} {H1 : Hp} {D : Addr} {Qd : Hp → Prop} (Pv : Nat → Hp → Prop) (h0 : Pv 0 (upd H1 D (.lst []))) (hl : ∀ i H, i ≤ xs.length → Pv i H → SqT K H a xs)
    (hs : ∀ i x H, xs[i]? = some x → Pv i H → g x (wipe σ vs) H fun σ2 H2 => wipe σ2 vs = wipe σ vs ∧ tt σ2 H2 fun b H3 =>
      if b = true then te σ2 H3 fun y H4 => ∃ acc, H4 D = some (.lst acc) ∧ acc.length < sizeLine ∧ Pv (i + 1) (upd H4 D (.lst (acc ++ [y]))) else Pv (i + 1) H3) (hd : ∀ H, Pv xs.length H → Qd H) :
    ∃ W : Nat → Nat → Hp → Prop, (∃ m, W 0 m (upd H1 D (.lst []))) ∧ ∀ i m H, W i m H →
      ((Itt K a).stop i H ∧ Qd H) ∨ ((Itt K a).go i H ∧ ∃ Nx : Hp → Prop, (∀ H', Nx H' → ∃ m', m' < m ∧ W (i + 1) m' H') ∧ ∀ x H', (Itt K a).yld i H x H' → g x (wipe σ vs) H' fun σ2 H2 => wipe σ2 vs = wipe σ vs ∧ tt σ2 H2 fun b H3 =>
        if b = true then te σ2 H3 fun y H4 => ∃ acc, H4 D = some (.lst acc) ∧ acc.length < sizeLine ∧ Nx (upd H4 D (.lst (acc ++ [y]))) else Nx H3) := by
  refine ⟨fun i m H => m = xs.length - i ∧ i ≤ xs.length ∧ Pv i H, ⟨xs.length, by simp, Nat.zero_le _, h0⟩, ?_⟩
  rintro i m H ⟨rfl, hi, p⟩
  have q := hl i H hi p
  by_cases hlt : i < xs.length
  · refine .inr ⟨⟨xs, xs[i], q, by simp [hlt]⟩, Pv (i + 1), fun H' p' => ⟨xs.length - (i + 1), by omega, rfl, hlt, p'⟩, fun x H' y => ?_⟩
    obtain ⟨e, y⟩ := y
    subst e
    exact hs i x _ (y xs q) p
  · have e : i = xs.length := by omega
    subst e
    exact .inl ⟨⟨xs, q, Nat.le_refl _⟩, hd H p⟩
def blkC (N : List Str) (sc scope : Scope) (own : List (Str × Nat)) : Bool :=
  (match scope.kind with | .function => true | _ => false) && (scope.names.all fun y => decide (scope.names.lookup y.1 = some y.2)) && (own.all fun p => decide (N[p.2]? = some p.1)) &&
    (scope.names.all fun y => match y.2 with
      | .free => (match sc.names.lookup y.1 with | some .cell => true | some .free => true | _ => false)
      | .local => decide (y.1 ∈ own.map (·.1)) || decide (y.1 ∉ N)
      | .cell => decide (y.1 ∈ own.map (·.1)) || decide (y.1 ∉ N)
      | _ => true)
theorem blkOk_by {N : List Str} {sc scope : Scope} {own : List (Str × Nat)} (h : blkC N sc scope own = true) : BlkOk N sc scope own := by
  unfold blkC at h
  simp only [Bool.and_eq_true, List.all_eq_true, decide_eq_true_eq] at h
  obtain ⟨⟨⟨h1, h2⟩, h3⟩, h4⟩ := h
  refine ⟨?_, h2, h3, fun y hy e => ?_, fun y hy e => ?_⟩
  · split at h1
    · assumption
    · cases h1
  · have q := h4 y hy
    simp only [e] at q
    split at q <;> first | exact .inl (by assumption) | exact .inr (by assumption) | cases q
  · have q := h4 y hy
    rcases e with e | e <;> (simp only [e, Bool.or_eq_true, decide_eq_true_eq] at q; exact q)
end L2

namespace L2
open PySem PySem.Spec PyProof.Rows
section
variable {prog : Program} {w : World} {A : Around} {R : Result → Shared → Prop} {s : Shared} {elt t0 i0 t1 i1 : Expr} {ifs0 ifs1 : List Expr} {scope : Scope} {pos : Pos} {it acc : Value} {env : Env}
end
section
variable {X : Cx}
end
end L2

namespace L2
open PySem PySem.Spec PyProof.Rows

/-! ### lists of pairs as tables -/
section
variable {κ : Type} [DecidableEq κ]
end


/-! ### a tracked dict, its keys ints and texts or tuples of these -/
section
variable {P : Program} {w : World} {H : Hp} {h : Heap} {a : Addr}
end
section
variable {X : Cx} {pins : List (Addr × Obj)} {σ : St} {H : Hp} {s : Shared} {a : Addr} {y v : V} {u r : Value} {o : Option V} {A : Around} {E : Value → Shared → Prop}
end

section
variable {X : Cx} {pins : List (Addr × Obj)} {σ : St} {H : Hp} {s : Shared} {a : Addr} {kvs : List (Key × V)} {k : Key} {u : Value} {A : Around} {E : Value → Shared → Prop}
end


/-! ### readings and rules -/
section
variable {X : Cx} {o i e value : Expr} {pos pos' tpos : Pos} {td ty tv : TE}
end


/-! ### displays -/
section
variable {X : Cx} {pos : Pos}
end
/-! ### methods -/
section
variable {X : Cx} {pins : List (Addr × Obj)} {σ : St} {H : Hp} {s : Shared} {a : Addr} {y d : V} {u r : Value} {o : Option V} {A : Around} {E : Value → Shared → Prop}
end
section
variable {X : Cx} {o e f : Expr} {apos cpos : Pos} {td ty tx : TE}
end

/-! ### dict(d): a copy -/
section
variable {X : Cx} {pins : List (Addr × Obj)} {σ : St} {H : Hp} {s : Shared} {a : Addr} {kvs : List (Key × V)} {A : Around} {E : Value → Shared → Prop}
end


section
variable {X : Cx} {pins : List (Addr × Obj)} {σ : St} {H : Hp} {s : Shared} {a : Addr} {y : V} {u : Value} {A : Around} {E : Value → Shared → Prop}
end
end L2

namespace L2
open PySem PySem.Spec PyProof.Rows
section
variable {prog : Program} {w : World} {A : Around} {E : Value → Shared → Prop}
end

section
variable {X : Cx}
end
end L2

namespace L2
open PySem PySem.Spec PyProof.Rows
section
variable {X : Cx} {pins : List (Addr × Obj)} {σ : St} {H : Hp} {s : Shared} {h' : Heap}
/-- several records of ours have turned -/
theorem Inv.turnedL {t' : Nat} {ch : List Addr} (I : Inv X pins σ H s) (k : ∀ b o, b ∉ ch → s.heap.get? b = some o → h'.get? b = some o) (hf : ∀ b ∈ ch, FpOk X pins H b) : Inv X pins σ H { s with heap := h', toks := t' } := by
  have nit : ∀ b u, H b = some u → b ∉ ch := fun b u e z => by
    have q := (hf b z).1
    rw [q] at e; cases e
  refine I.step (g' := s.gens) (d' := s.drawn) (ch := ch) (fun b hb => ⟨(hf b hb).2.2.2.1, (hf b hb).2.1, (hf b hb).2.2.2.2.1, (hf b hb).2.2.2.2.2⟩) (fun b o _ _ hc e _ => k b o hc e) (fun b o _ _ hc e _ => ⟨o.slots, k b o hc e⟩)
    (fun _ _ _ _ n => n) (fun b o hc e => ⟨o, k b o hc e⟩) (fun _ _ e => e) (fun _ _ _ e => e) (fun b ps e => ⟨#[], by rw [e]; simp⟩) (fun m hm => ?_) (fun b u e => ?_) I.bare
  · obtain ⟨o, es, ep, ho, r⟩ := hm
    exact ⟨o, es, ep, k _ o (fun z => (hf _ z).2.1 rfl) ho, r⟩
  · refine (I.hok b u e).stay (fun c v hc q => k c v ?_ q) (fun _ q => q) fun _ _ q => q
    rcases hc with z | z
    · rw [z]; exact nit b u e
    · exact nit c _ z
/-- .. and one new object is laid -/
theorem Inv.turnedNew {t' : Nat} {ch : List Addr} {T : Addr} {ob : HO} (I : Inv X pins σ H s) (k : ∀ b o, b ∉ ch → s.heap.get? b = some o → h'.get? b = some o) (hf : ∀ b ∈ ch, FpOk X pins H b) (hT : s.heap.objs.size ≤ T)
    (new : ObjOk X.prog X.w (upd H T ob) h' T ob) : Inv X pins σ (upd H T ob) { s with heap := h', toks := t' } := by
  have hn : H T = none := I.hok.fresh hT
  have nit : ∀ b u, H b = some u → b ∉ ch := fun b u e z => by
    have q := (hf b z).1
    rw [q] at e; cases e
  refine I.step (g' := s.gens) (d' := s.drawn) (ch := ch) (fun b hb => ⟨(hf b hb).2.2.2.1, (hf b hb).2.1, (hf b hb).2.2.2.2.1, (hf b hb).2.2.2.2.2⟩) (fun b o _ _ hc e _ => k b o hc e) (fun b o _ _ hc e _ => ⟨o.slots, k b o hc e⟩)
    (fun b o _ e n => ?_) (fun b o hc e => ⟨o, k b o hc e⟩) (fun b xs e => ?_) (fun b o u e => ?_) (fun b ps e => ⟨#[], ?_⟩) (fun m hm => ?_) (fun b u e => ?_) I.bare
  · rw [upd_ne (Nat.ne_of_lt (Nat.lt_of_lt_of_le (Heap.lt_size e) hT))]; exact n
  · rw [upd_ne (ne_of_none e hn)]; exact e
  · rw [upd_ne (ne_of_none e hn)]; exact e
  · rw [upd_ne (ne_of_none e hn), e]; simp
  · obtain ⟨o, es, ep, ho, r⟩ := hm
    exact ⟨o, es, ep, k _ o (fun z => (hf _ z).2.1 rfl) ho, r⟩
  · by_cases hb : b = T
    · subst hb
      rw [upd_same] at e
      cases e
      exact new
    · rw [upd_ne hb] at e
      refine (I.hok b u e).stay (fun c v hc q => k c v ?_ q) (fun c q => by rw [upd_ne (ne_of_none q hn)]; exact q) fun c xs q => by rw [upd_ne (ne_of_none q hn)]; exact q
      rcases hc with z | z
      · rw [z]; exact nit b u e
      · exact nit c _ z

/-! ### locking a thing while a statement runs -/
end
section
variable {X : Cx}
/-! ### one iterator just laid -/
theorem pi_one {tg : Expr} {pins : List (Addr × Obj)} {σ : St} {H : Hp} {s : Shared} {R : It → Hp → Prop} {J : It} {tn : Nat → Heap → Prop} {tk : Nat} (I : Inv X pins σ H s) (o : Obj)
    (T : Turn X.prog X.w X.K tg J [s.heap.objs.size] s.heap.objs.size tn) (st : tn 0 (s.heap.push o)) (q : R J H) : PIE X pins σ tg R (.ref s.heap.objs.size) { s with heap := s.heap.push o, toks := tk } := by
  refine ⟨s.heap.objs.size, [s.heap.objs.size], tn, J, H, rfl, I.kept fun b ob e => Heap.get?_push_of_some _ e, T, st, fun b hb => ?_, q⟩
  have e : b = s.heap.objs.size := by simpa using hb
  subst e
  exact I.fpOk (Nat.le_refl _) (I.hok.fresh (Nat.le_refl _))
end

/-! ### range with a step -/
/-- lo, lo + c, .. (n of them) -/
def Itc (lo c : Int) (n : Nat) : It := ⟨fun i _ => i < n, fun i H x H' => H' = H ∧ x = .int (lo + (i : Nat) * c), fun i _ => n ≤ i⟩
theorem turn_rangeC {P : Program} {w : World} {K : PySem.W.Frag} {tg : Expr} (it : Addr) (lo c : Int) (n : Nat) : Turn P w K tg (Itc lo c n) [it] it (fun i h => IsRangeIter h it (lo + (i : Nat) * c) ((n : Int) - (i : Nat)) c) where
  mem := by simp
  obj := fun i h st b hb => by
    have e : b = it := by simpa using hb
    subst e
    exact ⟨_, st, fun v z => nomatch z⟩
  keep := fun i h h' st k => k it (by simp) _ st
  item := by
    intro X hP hw hK hc i pins s σ H E I hf st hg
    subst hP hw hK
    obtain ⟨f0, f1, f2, f3, f4, f5⟩ := hf it (by simp)
    have W := Walks.range (prog := X.prog) (w := X.w) (I.ok.hd hc) it lo c n
    refine W.item i s _ _ hg st fun v h' tk hv st' kk => ?_
    obtain ⟨t, rfl⟩ := hv
    have I1 : Inv X pins σ H { s with heap := h', toks := tk } := I.turned (fun b o hb e => kk b o (by simpa using hb) e) f0 f1 f3 f4 f5
    exact ⟨_, rfl, go_of (s := { s with heap := h', toks := tk }) (n := "range_iterator") st' rfl rfl (by decide) ⟨.int (lo + (i : Nat) * c), H, I1, ⟨t, rfl⟩, ⟨rfl, rfl⟩, st', fun b hb => (hf b hb).1⟩⟩
  done := by
    intro X hP hw hK hc i pins s σ H E I hf st hg
    subst hP hw hK
    obtain ⟨f0, f1, f2, f3, f4, f5⟩ := hf it (by simp)
    exact wpAny_pyNext_range_end (I.ok.hd hc) st (by have : n ≤ i := hg; omega) fun h' eb => ⟨rfl, I.turned (t' := s.toks) (fun b o hb e => eb b o hb e) f0 f1 f3 f4 f5⟩
  self := fun A i s Q E st h => wpAny_pyIter_rangeiter st h
/-- range(i, j, c): small bounds, n items -/
def RgC (i j c : Int) (n : Nat) : Prop := c ≠ 0 ∧ c.natAbs < 1073741824 ∧ Builtin.Range.small i j c = true ∧ Builtin.Range.rangeSize i j c = n
def iRng3 (ta : TA) : TI := fun σ H R => ta σ H fun vs H1 => ∃ (i j c : Int) (n : Nat), vs = [.int i, .int j, .int c] ∧ RgC i j c n ∧ R (Itc i c n) H1
section
variable {X : Cx} {tg : Expr}
theorem pi_range3 {a b c : Expr} {ta : TA} {p pos : Pos} (hg : Gl X "range") (hm : X.mg "range" = none) (ha : PA X [a, b, c] ta)
    (hs : starEach [a, b, c] X.env = (false, eval a X.env) :: starEach [b, c] X.env := by rfl) (hpl : (backTo pos (starEach [b, c] X.env)).any (·.1) = false := by rfl) :
    PI X tg (.Call (.Name "range" p) [a, b, c] [] pos) (iRng3 ta) := by
  intro pins s σ H R I h
  refine Call_ (ld_blt I hg hm boot_range (PyProof.Rows.callWith_type1 (thn (ha pos pins s σ H _ I h) fun us s1 ⟨vs, H1, I1, r1, q1⟩ => ?_) hs hpl))
  obtain ⟨i, j, k, n, e, ⟨c0, c1, c2, c3⟩, q⟩ := q1
  subst e
  cases r1 with
  | cons r rr =>
    cases rr with
    | cons r' rr =>
      cases rr with
      | cons r'' rr =>
        cases rr
        obtain ⟨t, rfl⟩ := r
        obtain ⟨t', rfl⟩ := r'
        obtain ⟨t'', rfl⟩ := r''
        refine call_range_3 c0 ?_ (.inl (PyProof.noPylong_small c1))
        refine wpAny_pyIter_range (IsRange.new ..) c2 ?_
        have I2 : Inv X pins σ H1 { s1 with heap := s1.heap.push { cls := .type "range", data := .fields #[.int i t, .int j t', .int k t''] } } := I1.kept (t' := s1.toks) fun b o e => Heap.get?_push_of_some _ e
        refine pi_one (tk := s1.toks) I2 _ (turn_rangeC _ i k n) ?_ q
        have e1 : i + ((0 : Nat) : Int) * k = i := by simp
        have e2 : (n : Int) - ((0 : Nat) : Int) = Builtin.Range.rangeSize i j k := by rw [c3]; simp
        show IsRangeIter _ _ (i + ((0 : Nat) : Int) * k) ((n : Int) - ((0 : Nat) : Int)) k
        rw [e1, e2]
        exact Heap.get?_push_size _ rfl
end
/-! ### reversed(list) -/
section
variable {X : Cx} {tg : Expr}
end

/-! ### a str -/
/-! ### a dict's keys: any dict's entries -/
section
variable {prog : Program} {w : World} {A : Around} {E : Value → Shared → Prop} {s : Shared}
end

/-! ### a locked dict -/
section
variable {X : Cx} {pins : List (Addr × Obj)} {σ : St} {H : Hp} {s : Shared} {d : Addr} {o : Obj}
end
section
variable {P : Program} {w : World} {K : PySem.W.Frag} {tg : Expr} {d : Addr} {o : Obj} {es : Array DictEntry} {ep : Nat}
end

/-! ### for k in d, d.keys(), d.values(), d.items() -/
section
variable {X : Cx} {tg e : Expr} {td : TE} {apos cpos : Pos}
end

/-! ### enumerate(list) -/
/-! ### zip(list, list) -/
theorem boot_zip5 : bootBuiltins "zip" = some (.type "zip") := by decide +kernel
/-- the lists at a and b as they stand at each turn, the items in new pairs -/
def Itz (K : PySem.W.Frag) (a b : Addr) : It :=
  ⟨fun i H => ∃ (xs ys : List V) (x y : V), SqL K H a xs ∧ SqL K H b ys ∧ xs[i]? = some x ∧ ys[i]? = some y,
    fun i H v H' => ∃ T x y, v = .ref T ∧ H T = none ∧ H' = upd H T (.tup [x, y]) ∧ (∀ xs, SqL K H a xs → xs[i]? = some x) ∧ ∀ ys, SqL K H b ys → ys[i]? = some y,
    fun i H => ∃ xs ys : List V, SqL K H a xs ∧ SqL K H b ys ∧ (xs.length ≤ i ∨ ys.length ≤ i)⟩
theorem turn_zip {P : Program} {w : World} {K : PySem.W.Frag} {elts : List Expr} {kk : Nat} {tpos : Pos} {a b z TI TO i1 i2 : Addr} (D : ZipApart z TI TO i1 i2 a b) :
    Turn P w K (.Tuple elts kk tpos) (Itz K a b) [z, TI, TO, i1, i2] z (fun i h => IsZip h z TI TO .none ∧ IsPair h TI (.ref i1) (.ref i2) ∧ (∃ x y, IsPair h TO x y) ∧ h.IsListIter i1 a i ∧ h.IsListIter i2 b i) where
  mem := by simp
  obj := fun i h st c hc => by
    obtain ⟨hz, hTI, ⟨x, y, hTO⟩, ⟨o1, e1, _, d1⟩, ⟨o2, e2, _, d2⟩⟩ := st
    have e' : c = z ∨ c = TI ∨ c = TO ∨ c = i1 ∨ c = i2 := by simpa using hc
    rcases e' with q | q | q | q | q
    · rw [q]; exact ⟨_, hz, fun v q => nomatch q⟩
    · rw [q]; exact ⟨_, hTI, fun v q => nomatch q⟩
    · rw [q]; exact ⟨_, hTO, fun v q => nomatch q⟩
    · rw [q]; exact ⟨o1, e1, fun v q => by rw [d1] at q; cases q⟩
    · rw [q]; exact ⟨o2, e2, fun v q => by rw [d2] at q; cases q⟩
  keep := fun i h h' st k => by
    obtain ⟨hz, hTI, ⟨x, y, hTO⟩, h1, h2⟩ := st
    exact ⟨k z (by simp) _ hz, k TI (by simp) _ hTI, ⟨x, y, k TO (by simp) _ hTO⟩, h1.at fun o q => k i1 (by simp) o q, h2.at fun o q => k i2 (by simp) o q⟩
  item := by
    intro X hP hw hK hc i pins s σ H E I hf st hg
    subst hP hw hK
    obtain ⟨hz, hTI, ⟨x0, y0, hTO⟩, h1, h2⟩ := st
    obtain ⟨xs, ys, x, y, hqx, hqy, hx, hy⟩ := hg
    obtain ⟨its, rv, p, _⟩ := I.list hqx
    obtain ⟨its2, rv2, p2, _⟩ := I.list hqy
    obtain ⟨u, hu, ru⟩ := rv.get hx
    obtain ⟨u2, hu2, ru2⟩ := rv2.get hy
    have hzl : z < s.heap.objs.size := Heap.lt_size hz
    refine wpAny_pyNext_zip_item D hz hTI hTO h1 h2 p.isList p2.isList (x := u) (y := u2) (by simpa using hu) (by simpa using hu2) fun h' z' TO' h1' h2' hT hsz hk => ?_
    refine ⟨_, rfl, wpAny_letOwnedTupleGo_zip (s := { s with heap := h' }) z' fun h'' z'' sb => ?_⟩
    have hT2 : h''.get? s.heap.objs.size = some { cls := .type "tuple", data := .seq #[u, u2] } := (sb.2 _ (Nat.ne_of_gt hzl)).trans hT
    have new : ObjOk X.prog X.w (upd H s.heap.objs.size (.tup [x, y])) h'' s.heap.objs.size (.tup [x, y]) :=
      ⟨by show 2 ≤ sizeLine; decide, [u, u2], .cons ru (.cons ru2 .nil), ⟨_, hT2, rfl, _, rfl⟩⟩
    have I1 : Inv X pins σ (upd H s.heap.objs.size (.tup [x, y])) { s with heap := h'' } :=
      I.turnedNew (t' := s.toks) (ch := [z, TI, TO, i1, i2]) (fun c o hb q => (sb.2 c (fun q' => hb (by simp [q']))).trans (hk c o (fun q' => hb (by simp [q'])) (fun q' => hb (by simp [q'])) (fun q' => hb (by simp [q'])) (fun q' => hb (by simp [q'])) q)) hf (Nat.le_refl _) new
    refine ⟨.ref s.heap.objs.size, _, I1, rfl, ⟨_, x, y, rfl, I.hok.fresh (Nat.le_refl _), rfl, fun l hl => by rw [I.list_inj hl hqx]; exact hx, fun l hl => by rw [I.list_inj hl hqy]; exact hy⟩, ⟨z'', ?_, ⟨u, u2, ?_⟩, ?_, ?_⟩, fun c hcm => ?_⟩
    · exact (sb.2 _ D.TIz).trans (hk _ _ D.TIz D.TITO D.TIi1 D.TIi2 hTI)
    · exact (sb.2 _ D.TOz).trans TO'
    · exact h1'.at fun o q => (sb.2 _ D.i1z).trans q
    · exact h2'.at fun o q => (sb.2 _ D.i2z).trans q
    · have hlt : c < s.heap.objs.size := by
        have e' : c = z ∨ c = TI ∨ c = TO ∨ c = i1 ∨ c = i2 := by simpa using hcm
        rcases e' with q | q | q | q | q
        · rw [q]; exact hzl
        · rw [q]; exact Heap.lt_size hTI
        · rw [q]; exact Heap.lt_size hTO
        · rw [q]; obtain ⟨_, e1, _⟩ := h1; exact Heap.lt_size e1
        · rw [q]; obtain ⟨_, e2, _⟩ := h2; exact Heap.lt_size e2
      rw [upd_ne (Nat.ne_of_lt hlt)]
      exact (hf c hcm).1
  done := by
    intro X hP hw hK hc i pins s σ H E I hf st hg
    subst hP hw hK
    obtain ⟨hz, hTI, ⟨x0, y0, hTO⟩, h1, h2⟩ := st
    obtain ⟨xs, ys, hqx, hqy, hend⟩ := hg
    obtain ⟨its, rv, p, _⟩ := I.list hqx
    obtain ⟨its2, rv2, p2, _⟩ := I.list hqy
    have l1 := rv.length
    have l2 := rv2.length
    have he : its.toArray[i]? = none ∨ its2.toArray[i]? = none := by
      rcases hend with q | q
      · exact .inl (by simp; omega)
      · exact .inr (by simp; omega)
    exact wpAny_pyNext_zip_end (I.ok.hd hc) D hz hTI hTO h1 h2 p.isList p2.isList he fun h' hk => ⟨rfl, I.turnedL (t' := s.toks) (ch := [z, TI, TO, i1, i2]) (fun c o hb q =>
      hk c o (fun q' => hb (by simp [q'])) (fun q' => hb (by simp [q'])) (fun q' => hb (by simp [q'])) (fun q' => hb (by simp [q'])) q) hf⟩
  self := fun A i s Q E st h => wpAny_pyIter_zip st.1 h
def iZip (K : PySem.W.Frag) (ta : TA) : TI := fun σ H R => ta σ H fun vs H1 => ∃ a b xs ys, vs = [.ref a, .ref b] ∧ SqL K H1 a xs ∧ SqL K H1 b ys ∧ R (Itz K a b) H1
theorem pi_zip {X : Cx} {e e2 : Expr} {ta : TA} {p pos tpos : Pos} {elts : List Expr} {kk : Nat} (hg : Gl X "zip") (hm : X.mg "zip" = none) (ha : PA X [e, e2] ta)
    (hs : starEach [e, e2] X.env = (false, eval e X.env) :: starEach [e2] X.env := by rfl) (hpl : (backTo pos (starEach [e2] X.env)).any (·.1) = false := by rfl) :
    PI X (.Tuple elts kk tpos) (.Call (.Name "zip" p) [e, e2] [] pos) (iZip X.K ta) := by
  intro pins s σ H R I h
  refine Call_ (ld_blt I hg hm boot_zip5 (PyProof.Rows.callWith_type1 (thn (ha pos pins s σ H _ I h) fun us s1 ⟨vs, H1, I1, r1, q1⟩ => ?_) hs hpl))
  obtain ⟨a, b, xs, ys, ex, hqx, hqy, q⟩ := q1
  subst ex
  cases r1 with
  | cons r rr =>
    cases rr with
    | cons r' rr =>
      cases rr
      cases r
      cases r'
      obtain ⟨its, rv, p1, _⟩ := I1.list hqx
      obtain ⟨its2, rv2, p2, _⟩ := I1.list hqy
      have la : a < s1.heap.objs.size := p1.lt
      have lb : b < s1.heap.objs.size := p2.lt
      refine call_zip_2 p1.isList p2.isList fun h' hz hTI hTO h1 h2 hsz hk => wpAny_pyIter_zip hz ?_
      have I2 : Inv X pins σ H1 { s1 with heap := h' } := I1.kept (t' := s1.toks) hk
      refine ⟨s1.heap.objs.size + 4, [s1.heap.objs.size + 4, s1.heap.objs.size + 2, s1.heap.objs.size + 3, s1.heap.objs.size, s1.heap.objs.size + 1], _, _, H1, rfl, I2, turn_zip (PySem.W.ktu_apart s1.heap.objs.size a b la lb), ⟨hz, hTI, ⟨_, _, hTO⟩, h1, h2⟩, fun c hcm => ?_, q⟩
      have e' : c = s1.heap.objs.size + 4 ∨ c = s1.heap.objs.size + 2 ∨ c = s1.heap.objs.size + 3 ∨ c = s1.heap.objs.size ∨ c = s1.heap.objs.size + 1 := by simpa using hcm
      have hle : s1.heap.objs.size ≤ c := by
        rcases e' with z | z | z | z | z
        · rw [z]; exact Nat.le_add_right _ _
        · rw [z]; exact Nat.le_add_right _ _
        · rw [z]; exact Nat.le_add_right _ _
        · rw [z]; exact Nat.le_refl _
        · rw [z]; exact Nat.le_add_right _ _
      exact I1.fpOk hle (I1.hok.fresh hle)
end L2

section 
namespace Bits
open PySem PyProof.Rows
end Bits
end 

section 
namespace TL
open PySem PySem.Builtin PySem.Builtin.Str PySem.StrLaws
/-! ### the list functions -/
/-! ### the model's split and partition are these -/
/-! ### computing spl and par -/
/-! ### digits -/
/-! ### words: x.split() -/
end TL
end 

namespace L2
open PySem PySem.Spec PyProof.Rows
section
variable {X : Cx} {pins : List (Addr × Obj)} {σ : St} {H : Hp} {s : Shared} {Q : VK}
end

section
variable {X : Cx}
/-! ### of a text alone -/
/-! ### of a text and a text -/
end

section
variable {X : Cx} {o e : Expr} {to te : TE}
end
end L2

namespace L2
open PySem PySem.Spec PyProof.Rows

section
variable {X : Cx}
end

/-! ### slices of a text -/
end L2

namespace Att
open PySem PySem.W PySem.Calls PyProof.Rows

/-! ### the script -/
/-! ### the attachment: holds_open's last premise (the goal 'hc' behind k_head) from a wpAny of the law's body -/
/-! ### rules over ANY heap (no ledger) from facts about the written part K: the library's own take a ledger (News) for what they write -/
section
variable {prog : Program} {w : World} {A : Around} {E : Value → Shared → Prop} {s : Shared} {K : Frag}

/-! the whole heap as the ledger: makes every rule that writes through a ledger a rule over any heap -/
end
end Att

namespace L2
open PySem PySem.Spec PyProof.Rows
end L2

namespace L2
open PySem PySem.Spec PyProof.Rows
end L2

/- THE LAST THEOREM (shape; LID, My.* are yours):
   My.Adr: a structure of the addresses that your layer names (classes, functions); My.Txt K t: a structure (Prop) of the equations over K;
   My.txt_mk : {K} {implicit addresses ..} (e1 : nsIn K mainGlobals "law" = some (some (.ref f))) (e2 : K.lookup f = some ⟨oc, od, .func (fnOf "law" "law" params body scope dV kV doc pm an cdv ct), sl⟩) (e3 : codeIn K cdv "law" = true) .. : ∃ t, My.Txt K t

set_option maxRecDepth 100000 in
(the tactic k_is has no namespace: write k_is) -/

/-! SHORT WORDS over the layer: a def of the text, its body, what a loop and a test want. -/
namespace L2
open PySem PySem.Spec PyProof.Rows

/-! ### the text by places -/
/-- the j-th statement of a class's body -/
def inClass (s : Stmt) (j : Nat) : Stmt := match s with
  | .ClassDef _ _ _ body _ _ _ _ _ _ _ => body.getD j (.Pass ⟨0, 0, 0, 0⟩)
  | _ => .Pass ⟨0, 0, 0, 0⟩
def defArgs (s : Stmt) : Arguments := match s with
  | .FunctionDef _ a _ _ _ _ _ _ _ _ => a
  | _ => { posonlyargs := [], args := [], vararg := none, kwonlyargs := [], kw_defaults := [], kwarg := none, defaults := [] }
def defBody (s : Stmt) : List Stmt := match s with
  | .FunctionDef _ _ b _ _ _ _ _ _ _ => b
  | _ => []
def defScope (s : Stmt) : Scope := match s with
  | .FunctionDef _ _ _ _ _ _ sc _ _ _ => sc
  | _ => { kind := .function, names := [], isGenerator := false, isCoroutine := false }

/-! ### no exception leaves a def -/
abbrev CX0 : CXT := fun _ _ _ _ _ _ => False
abbrev E0 : XK := fun _ _ _ => False
theorem pass0 {X : Cx} : Passes CX0 X E0 := fun _ _ _ _ _ _ _ h => h.elim

/-! ### a def (or method) of the text as it stands behind the top -/
structure Fun (K : PySem.W.Frag) (x qual : Str) (st : Stmt) (f : Addr) (fd : FuncData) : Prop where
  ex : ∃ (oc : Value) (od : Option Addr) (kV doc pm : Value) (an : Option Addr) (cdv ct : Value) (osl : Array (Option Value)),
    fd = PySem.W.fnOf x qual (defArgs st) (defBody st) (defScope st) .none kV doc pm an cdv ct ∧ K.lookup f = some ⟨oc, od, .func fd, osl⟩ ∧ PySem.W.codeIn K cdv qual = true
  kp : PySem.W.keepIn K (.ref f) = true
section
variable {P : Program} {w : World} {K : PySem.W.Frag} {mg : Str → Option Value} {base : Heap}
/-- THE RULE for a def: its body as a term of rules, and the reading of that term -/
theorem Fun.ok {x qual : Str} {st : Stmt} {f : Addr} {fd : FuncData} {N ps : List Str} {k : Nat} {sp : Sp} (F : Fun K x qual st f fd) (S : FnScope N ps (defScope st)) (len : ∀ vs H Q E, sp vs H Q E → vs.length = ps.length)
    (hbody : ∀ (cdv : Value) (A : Around) (outer : List Env) (s : Shared) (H : Hp) (vs : List V) (Q : VK) (E : XK), Room k (A.deeper (envOfC qual (defScope st) s.heap.objs.size f cdv)) → sp vs H Q E →
      ∃ t, PSs (cxOf CX0 P w K mg base N qual (defScope st) f cdv A outer s H E).nox (defBody st) t ∧ t { nx := fun _ H' => Q .non H', rt := Q } (start N vs) H) : FnOk P w K mg base CX0 (k + 1) f fd ps sp := by
  obtain ⟨oc, od, kV, doc, pm, an, cdv, ct, osl, rfl, lk, hcd⟩ := F.ex
  refine fn_of lk hcd S len fun A outer s H vs Q E hr hsp => ?_
  obtain ⟨t, h, q⟩ := hbody cdv A outer s H vs Q E hr hsp
  exact ⟨t, h.nox, q⟩
/-- how its arguments bind (no defaults): h is «fun _ _ _ _ _ _ us hl => match us, hl with | [_, _], _ => rfl», one _ a parameter -/
theorem Fun.binds {x qual : Str} {st : Stmt} {f : Addr} {fd : FuncData} {ps : List Str} (F : Fun K x qual st f fd)
    (h : ∀ (kV doc pm : Value) (an : Option Addr) (cdv ct : Value) (us : List Value), us.length = ps.length → bindArgs (PySem.W.fnOf x qual (defArgs st) (defBody st) (defScope st) .none kV doc pm an cdv ct) ⟨us, []⟩ = pure (ps.zip us)) : Binds K fd ps [] := by
  obtain ⟨oc, od, kV, doc, pm, an, cdv, ct, osl, rfl, lk, hcd⟩ := F.ex
  exact .all (h kV doc pm an cdv ct)
theorem fun_mk {x qual : Str} {st : Stmt} {f : Addr} {oc : Value} {od an : Option Addr} {osl : Array (Option Value)} {kV doc pm cdv ct : Value} (l : K.lookup f = some ⟨oc, od, .func (PySem.W.fnOf x qual (defArgs st) (defBody st) (defScope st) .none kV doc pm an cdv ct), osl⟩)
    (c : PySem.W.codeIn K cdv qual = true) (k : PySem.W.keepIn K (.ref f) = true) : Fun K x qual st f (PySem.W.fnOf x qual (defArgs st) (defBody st) (defScope st) .none kV doc pm an cdv ct) := ⟨⟨oc, od, kV, doc, pm, an, cdv, ct, osl, rfl, l, c⟩, k⟩
end
/-! ### expressions in short: the name that stands in the i-th slot -/
section
variable {X : Cx}
theorem pv (i : Nat) {x : Str} {pos : Pos} (hN : X.N[i]? = some x := by rfl) (hv : Vis X.env.scope x := by first | exact Or.inl rfl | exact Or.inr (Or.inl rfl) | exact Or.inr (Or.inr rfl)) (hd : (x == ("__debug__" : Str)) = false := by decide)
    (hcd : (x == ("__classdict__" : Str)) = false := by decide) : PE X (.Name x pos) (tVar i) := pe_var hN hv hd hcd
end

/-! ### tests -/
theorem iteF {A B : Prop} (h : B) : if false = true then A else B := by
  rw [if_neg Bool.false_ne_true]
  exact h
theorem iteT {A B : Prop} (h : A) : if true = true then A else B := by
  rw [if_pos rfl]
  exact h
/-! ### heaps -/
/-- all that was tracked is as it was -/
def Same (H H' : Hp) : Prop := ∀ b o, H b = some o → H' b = some o
theorem Same.refl (H : Hp) : Same H H := fun _ _ h => h
theorem Same.trans {H H1 H2 : Hp} (a : Same H H1) (b : Same H1 H2) : Same H H2 := fun c o h => b c o (a c o h)
theorem Same.free {H H' : Hp} (e : Same H H') {l : Addr} (h : H' l = Option.none) : H l = Option.none := by
  cases q : H l with
  | none => rfl
  | some o =>
    rw [e l o q] at h
    cases h
theorem Same.seq {K : PySem.W.Frag} {H H' : Hp} {a : Addr} {xs : List V} (e : Same H H') (h : SqL K H a xs) : SqL K H' a xs := by
  rcases h with (h | ⟨o, h⟩) | h
  · exact .inl (.inl (e _ _ h))
  · exact .inl (.inr ⟨o, e _ _ h⟩)
  · exact .inr h

/-! ### a dict's pairs: keys that differ -/
section
variable {κ : Type} [DecidableEq κ]
end
/-! ### lists -/
/-- a new instance and its __init__ leave all that was tracked as it was -/
theorem Same.made {H H1 : Hp} {x dx C : Addr} (nx : H x = Option.none) (nd : H dx = Option.none) (k : ∀ b o, (upd (upd H dx (.own x)) x (.ins C dx [])) b = some o → b ≠ x → H1 b = some o) : Same H H1 := fun b o e =>
  k b o (by rw [upd_ne (ne_of_none e nx), upd_ne (ne_of_none e nd)]; exact e) (ne_of_none e nx)
end L2

end
section
set_option Elab.async false
set_option linter.all false
set_option maxRecDepth 100000
set_option maxHeartbeats 2000000
namespace L2
open PySem PySem.Spec PyProof.Rows
open PySem.W (WData Codec OpenSpec Well WellAll ReadsW ReadsAllW)
/-! ### an answer as data -/
mutual
/-- x stands for the datum d, lists and tuples all the way -/
inductive Dw (K : PySem.W.Frag) (H : Hp) : V → WData → Prop
  | non : Dw K H .non .none
  | bl (b : Bool) : Dw K H (.bl b) (.bool b)
  | int (i : Int) : Dw K H (.int i) (.int i)
  | str (x : Str) : Dw K H (.str x) (.str x)
  | byt (b : Array UInt8) : Dw K H (.byt b) (.bytes b.toList)
  | lst {a : Addr} {xs : List V} {ds : List WData} : SqL K H a xs → DwAll K H xs ds → Dw K H (.ref a) (.list ds)
  | tup {a : Addr} {xs : List V} {ds : List WData} : SqT K H a xs → DwAll K H xs ds → Dw K H (.ref a) (.tuple ds)
inductive DwAll (K : PySem.W.Frag) (H : Hp) : List V → List WData → Prop
  | nil : DwAll K H [] []
  | cons {v : V} {vs : List V} {d : WData} {ds : List WData} : Dw K H v d → DwAll K H vs ds → DwAll K H (v :: vs) (d :: ds)
end
theorem dw_ints {K : PySem.W.Frag} {H : Hp} : ∀ ns : List Int, DwAll K H (ns.map V.int) (ns.map WData.int)
  | [] => .nil
  | n :: r => .cons (.int n) (dw_ints r)
theorem ints_dw {K : PySem.W.Frag} {H : Hp} : ∀ (ns : List Int) (xs : List V), DwAll K H xs (ns.map WData.int) → xs = ns.map V.int
  | [], xs, h => by
    cases h
    rfl
  | n :: r, xs, h => by
    cases h with
    | cons h1 h2 =>
      cases h1
      rw [ints_dw r _ h2] <;> rfl
section
variable {P : Program} {w : World} {K : PySem.W.Frag} {H : Hp} {h : Heap} {R : PySem.W.WRecords} {cl : Str → Option Addr}
theorem sqL_at {a : Addr} {xs : List V} (hok : HOk P w H h) (KX : K.In h) (q : SqL K H a xs) : ∃ (its : List Value) (o : Obj) (n : Nat), Vals xs its ∧ h.get? a = some o ∧ o.cls = .type "list" ∧ o.data = .seq its.toArray n := by
  rcases q with q | ⟨o, its, n, e, hc, _, hd, _, hv⟩
  · obtain ⟨_, its, n, hv, e⟩ := (show ObjOk P w H h a (.lst xs) from q.ok hok)
    exact ⟨its, _, n, hv, e, rfl, rfl⟩
  · exact ⟨its.toList, o, n, hv, KX _ _ e, hc, by simp [hd]⟩
theorem sqT_at {a : Addr} {xs : List V} (hok : HOk P w H h) (KX : K.In h) (q : SqT K H a xs) : ∃ (its : List Value) (o : Obj) (n : Nat), Vals xs its ∧ h.get? a = some o ∧ o.cls = .type "tuple" ∧ o.data = .seq its.toArray n := by
  rcases q with q | ⟨o, its, n, e, hc, hd, _, hv⟩
  · obtain ⟨_, its, hv, o, e, hc, n, hd⟩ := (show ObjOk P w H h a (.tup xs) from q.ok hok)
    exact ⟨its, o, n, hv, e, hc, hd⟩
  · exact ⟨its.toList, o, n, hv, KX _ _ e, hc, by simp [hd]⟩
mutual
theorem Dw.reads (hok : HOk P w H h) (KX : K.In h) : ∀ (d : WData) (v : V) (u : Value), Dw K H v d → RelV v u → ∃ as, ReadsW R cl h u d as
  | .none, _, _, x, r => by
    cases x
    cases r
    exact ⟨_, ReadsW.none⟩
  | .bool b, _, _, x, r => by
    cases x
    cases r
    exact ⟨_, ReadsW.bool b⟩
  | .int i, _, _, x, r => by
    cases x
    obtain ⟨t, rfl⟩ := r
    exact ⟨_, ReadsW.int i t⟩
  | .str s, _, _, x, r => by
    cases x
    obtain ⟨t, rfl⟩ := r
    exact ⟨_, ReadsW.str s t⟩
  | .bytes b, _, _, x, r => by
    cases x
    obtain ⟨t, rfl⟩ := r
    exact ⟨_, ReadsW.bytes _ t⟩
  | .list ds, _, _, x, r => by
    cases x with
    | lst hs ha =>
      cases r
      obtain ⟨its, o, n, rv, ho, hc, hd⟩ := sqL_at hok KX hs
      obtain ⟨as, hr⟩ := Dw.readsAll hok KX ds _ its ha rv
      exact ⟨_, ReadsW.list ho hc hd hr⟩
  | .tuple ds, _, _, x, r => by
    cases x with
    | tup hs ha =>
      cases r
      obtain ⟨its, o, n, rv, ho, hc, hd⟩ := sqT_at hok KX hs
      obtain ⟨as, hr⟩ := Dw.readsAll hok KX ds _ its ha rv
      exact ⟨_, ReadsW.tuple ho hc hd hr⟩
  | .float _, _, _, x, _ => by cases x
  | .dict _, _, _, x, _ => by cases x
  | .bytearray _, _, _, x, _ => by cases x
  | .set _, _, _, x, _ => by cases x
  | .frozenset _, _, _, x, _ => by cases x
  | .obj _ _, _, _, x, _ => by cases x
theorem Dw.readsAll (hok : HOk P w H h) (KX : K.In h) : ∀ (ds : List WData) (vs : List V) (us : List Value), DwAll K H vs ds → Vals vs us → ∃ as, ReadsAllW R cl h us ds as
  | [], _, _, x, r => by
    cases x
    cases r
    exact ⟨_, ReadsAllW.nil⟩
  | d :: ds, _, _, x, r => by
    cases x with
    | cons h1 h2 =>
      cases r with
      | cons r1 r2 =>
        obtain ⟨as, q1⟩ := Dw.reads hok KX d _ _ h1 r1
        obtain ⟨bs, q2⟩ := Dw.readsAll hok KX ds _ _ h2 r2
        exact ⟨_, ReadsAllW.cons q1 q2⟩
end
end
/-! ### the arguments -/
mutual
/-- data that a codec tells -/
def plW : WData → Bool
  | .none => true
  | .bool _ => true
  | .int _ => true
  | .str _ => true
  | .bytes _ => true
  | .list xs => plWs xs
  | .tuple xs => plWs xs
  | _ => false
def plWs : List WData → Bool
  | [] => true
  | x :: r => plW x && plWs r
end
theorem plWs_map {α : Type} {f : α → WData} (h : ∀ a, plW (f a) = true) : ∀ l : List α, plWs (l.map f) = true
  | [] => rfl
  | x :: r => by
    show (plW (f x) && plWs (r.map f)) = true
    rw [h x, plWs_map h r] <;> rfl
theorem pl_enc : ∀ (c : Codec) (a : c.denote), plW (c.enc a) = true
  | .unit, _ => rfl
  | .bool, _ => rfl
  | .int _ _, _ => rfl
  | .nat _ _, _ => rfl
  | .u8, _ => rfl
  | .bytes _ _, _ => rfl
  | .text _ _ _ _, _ => rfl
  | .list _ _ c, a => plWs_map (fun x => pl_enc c x) a
  | .pair c d, a => by
    show (plW (c.enc a.1) && (plW (d.enc a.2) && true)) = true
    rw [pl_enc c a.1, pl_enc d a.2] <;> rfl
  | .triple c d e, a => by
    show (plW (c.enc a.1) && (plW (d.enc a.2.1) && (plW (e.enc a.2.2) && true))) = true
    rw [pl_enc c a.1, pl_enc d a.2.1, pl_enc e a.2.2] <;> rfl
  | .option c, none => rfl
  | .option c, some x => pl_enc c x
theorem pl_encAll : ∀ (cs : List Codec) (a : Codec.denoteAll cs), plWs (Codec.encAll cs a) = true
  | [], _ => rfl
  | c :: cs, a => by
    show (plW (c.enc a.1) && plWs (Codec.encAll cs a.2)) = true
    rw [pl_enc c a.1, pl_encAll cs a.2] <;> rfl
theorem weight_mem : ∀ {xs : List WData} {d : WData}, d ∈ xs → d.weight ≤ WData.weightAll xs
  | [], d, h => absurd h (by simp)
  | x :: r, d, h => by
    show d.weight ≤ x.weight + 1 + WData.weightAll r
    rcases List.mem_cons.mp h with e | m
    · rw [e]
      omega
    · have z := weight_mem m
      omega
def toV : Value → V
  | .none => .non
  | .bool b => .bl b
  | .int i _ => .int i
  | .str x _ => .str x
  | .bytes b _ => .byt b
  | .ref a => .ref a
  | _ => .non
/-- a value of the arguments, its objects among A -/
def OkU (A : List Addr) : Value → Prop
  | .none => True
  | .bool _ => True
  | .int _ _ => True
  | .str _ _ => True
  | .bytes _ _ => True
  | .ref a => a ∈ A
  | _ => False
theorem OkU.mono {A B : List Addr} (h : ∀ a ∈ A, a ∈ B) : ∀ {u : Value}, OkU A u → OkU B u := fun {u} x => by
  cases u with
  | ref a => exact h a x
  | none => trivial
  | bool b => trivial
  | int i t => trivial
  | str s t => trivial
  | bytes b t => trivial
  | _ => exact False.elim x
theorem relV_toV {A : List Addr} {u : Value} (x : OkU A u) : RelV (toV u) u := by
  cases u with
  | ref a => rfl
  | none => rfl
  | bool b => rfl
  | int i t => exact ⟨t, rfl⟩
  | str s t => exact ⟨t, rfl⟩
  | bytes b t => exact ⟨t, rfl⟩
  | _ => exact False.elim x
theorem vals_toV {A : List Addr} : ∀ {vs : List Value}, (∀ u ∈ vs, OkU A u) → Vals (vs.map toV) vs
  | [], _ => .nil
  | u :: r, h => .cons (relV_toV (h u (List.mem_cons_self ..))) (vals_toV fun x hx => h x (List.mem_cons_of_mem _ hx))
/-- an object of the arguments -/
def ArgOb (h : Heap) (A : List Addr) (a : Addr) : Prop := ∃ vs : List Value, vs.length ≤ sizeLine ∧ (∀ u ∈ vs, OkU A u) ∧
  (h.get? a = some { cls := .type "list", data := .seq vs.toArray } ∨ h.get? a = some { cls := .type "tuple", data := .seq vs.toArray })
theorem ArgOb.mono {h : Heap} {A B : List Addr} {a : Addr} (k : ∀ a ∈ A, a ∈ B) (x : ArgOb h A a) : ArgOb h B a := by
  obtain ⟨vs, h1, h2, h3⟩ := x
  exact ⟨vs, h1, fun u hu => (h2 u hu).mono k, h3⟩
theorem wellAll_len {P : Params} {h : Heap} : ∀ {vs : List Value} {ds : List WData}, WellAll P h vs ds → vs.length = ds.length
  | _, _, .nil => rfl
  | _, _, .cons _ b => by
    show _ + 1 = _ + 1
    rw [wellAll_len b]
theorem well_list {P : Params} {h : Heap} {v : Value} {ds : List WData} (x : Well P h v (.list ds)) : ∃ (a : Addr) (vs : List Value), v = .ref a ∧ h.get? a = some { cls := .type "list", data := .seq vs.toArray } ∧ WellAll P h vs ds := by
  cases x with
  | list ho hall => exact ⟨_, _, rfl, ho, hall⟩
theorem well_tuple {P : Params} {h : Heap} {v : Value} {ds : List WData} (x : Well P h v (.tuple ds)) : ∃ (a : Addr) (vs : List Value), v = .ref a ∧ h.get? a = some { cls := .type "tuple", data := .seq vs.toArray } ∧ WellAll P h vs ds := by
  cases x with
  | tuple ho hall => exact ⟨_, _, rfl, ho, hall⟩
theorem well_cons {P : Params} {h : Heap} {us : List Value} {d : WData} {ds : List WData} (x : WellAll P h us (d :: ds)) : ∃ (v : Value) (vs : List Value), us = v :: vs ∧ Well P h v d ∧ WellAll P h vs ds := by
  cases x with
  | cons a b => exact ⟨_, _, rfl, a, b⟩
theorem line_of {n : Nat} (h : n ≤ 1048576) : n ≤ sizeLine := Nat.le_trans h (by decide)
section
variable {P : Params} {h : Heap}
mutual
theorem area_one : ∀ (d : WData) (v : Value), Well P h v d → plW d = true → d.weight ≤ 1048576 → ∃ A : List Addr, OkU A v ∧ ∀ a ∈ A, ArgOb h A a
  | .none, _, x, _, _ => by
    cases x
    exact ⟨[], trivial, fun a m => absurd m (by simp)⟩
  | .bool b, _, x, _, _ => by
    cases x
    exact ⟨[], trivial, fun a m => absurd m (by simp)⟩
  | .int i, _, x, _, _ => by
    cases x
    exact ⟨[], trivial, fun a m => absurd m (by simp)⟩
  | .str s, _, x, _, _ => by
    cases x
    exact ⟨[], trivial, fun a m => absurd m (by simp)⟩
  | .bytes b, _, x, _, _ => by
    cases x
    exact ⟨[], trivial, fun a m => absurd m (by simp)⟩
  | .list ds, _, x, p, z => by
    obtain ⟨a, vs, rfl, ho, hall⟩ := well_list x
    have z2 : WData.weightAll ds ≤ 1048576 := z
    obtain ⟨A, h1, h2⟩ := area_all ds _ hall p fun d hd => Nat.le_trans (weight_mem hd) z2
    have k : ∀ b ∈ A, b ∈ a :: A := fun b hb => List.mem_cons_of_mem _ hb
    refine ⟨a :: A, List.mem_cons_self .., fun b hb => ?_⟩
    rcases List.mem_cons.mp hb with e | m
    · rw [e]
      exact ⟨vs, line_of (by rw [wellAll_len hall]; exact Nat.le_trans (PySem.W.length_le_weightAllW ds) z2), fun u hu => (h1 u hu).mono k, .inl ho⟩
    · exact (h2 b m).mono k
  | .tuple ds, _, x, p, z => by
    obtain ⟨a, vs, rfl, ho, hall⟩ := well_tuple x
    have z2 : WData.weightAll ds ≤ 1048576 := z
    obtain ⟨A, h1, h2⟩ := area_all ds _ hall p fun d hd => Nat.le_trans (weight_mem hd) z2
    have k : ∀ b ∈ A, b ∈ a :: A := fun b hb => List.mem_cons_of_mem _ hb
    refine ⟨a :: A, List.mem_cons_self .., fun b hb => ?_⟩
    rcases List.mem_cons.mp hb with e | m
    · rw [e]
      exact ⟨vs, line_of (by rw [wellAll_len hall]; exact Nat.le_trans (PySem.W.length_le_weightAllW ds) z2), fun u hu => (h1 u hu).mono k, .inr ho⟩
    · exact (h2 b m).mono k
  | .float _, _, _, p, _ => Bool.noConfusion (show false = true from p)
  | .dict _, _, _, p, _ => Bool.noConfusion (show false = true from p)
  | .bytearray _, _, _, p, _ => Bool.noConfusion (show false = true from p)
  | .set _, _, _, p, _ => Bool.noConfusion (show false = true from p)
  | .frozenset _, _, _, p, _ => Bool.noConfusion (show false = true from p)
  | .obj _ _, _, _, p, _ => Bool.noConfusion (show false = true from p)
theorem area_all : ∀ (ds : List WData) (vs : List Value), WellAll P h vs ds → plWs ds = true → (∀ d ∈ ds, d.weight ≤ 1048576) → ∃ A : List Addr, (∀ u ∈ vs, OkU A u) ∧ ∀ a ∈ A, ArgOb h A a
  | [], _, x, _, _ => by
    cases x
    exact ⟨[], fun u m => absurd m (by simp), fun a m => absurd m (by simp)⟩
  | d :: ds, _, x, p, z => by
    obtain ⟨v, vs, rfl, x1, x2⟩ := well_cons x
    have q : plW d = true ∧ plWs ds = true := Bool.and_eq_true_iff.mp p
    obtain ⟨A, a1, a2⟩ := area_one d v x1 q.1 (z d (List.mem_cons_self ..))
    obtain ⟨B, b1, b2⟩ := area_all ds vs x2 q.2 fun e he => z e (List.mem_cons_of_mem _ he)
    have kA : ∀ b ∈ A, b ∈ A ++ B := fun b hb => List.mem_append.mpr (.inl hb)
    have kB : ∀ b ∈ B, b ∈ A ++ B := fun b hb => List.mem_append.mpr (.inr hb)
    refine ⟨A ++ B, fun u hu => ?_, fun b hb => ?_⟩
    · rcases List.mem_cons.mp hu with e | m
      · rw [e]
        exact a1.mono kA
      · exact (b1 u m).mono kB
    · rcases List.mem_append.mp hb with m | m
      · exact (a2 b m).mono kA
      · exact (b2 b m).mono kB
end
end
/-- what is tracked of an argument's object -/
def hoOf (o : Obj) : Option HO := match o.data with
  | .seq vs _ => if (o.cls == Value.type "list") = true then some (.frz o (.lst (vs.toList.map toV))) else some (.frz o (.tup (vs.toList.map toV)))
  | _ => none
def argH (K : PySem.W.Frag) (h : Heap) (A : List Addr) : Hp := fun b => if b ∈ A then (if (K.lookup b).isNone = true then (h.get? b).bind hoOf else none) else none
/-- nothing is tracked but what is known to the object -/
def OnlyF (H : Hp) : Prop := ∀ b, H b = none ∨ ∃ o u, H b = some (.frz o u)
theorem hoOf_lst (vs : List Value) : hoOf { cls := .type "list", data := .seq vs.toArray } = some (.frz { cls := .type "list", data := .seq vs.toArray } (.lst (vs.map toV))) := by
  show (if (Value.type "list" == Value.type "list") = true then some (HO.frz { cls := .type "list", data := .seq vs.toArray } (.lst (vs.toArray.toList.map toV))) else some (HO.frz { cls := .type "list", data := .seq vs.toArray } (.tup (vs.toArray.toList.map toV)))) = _
  rw [if_pos (beq_self_eq_true _)]
theorem hoOf_tup (vs : List Value) : hoOf { cls := .type "tuple", data := .seq vs.toArray } = some (.frz { cls := .type "tuple", data := .seq vs.toArray } (.tup (vs.map toV))) := by
  show (if (Value.type "tuple" == Value.type "list") = true then some (HO.frz { cls := .type "tuple", data := .seq vs.toArray } (.lst (vs.toArray.toList.map toV))) else some (HO.frz { cls := .type "tuple", data := .seq vs.toArray } (.tup (vs.toArray.toList.map toV)))) = _
  rw [if_neg (by decide)]
section
variable {P : Program} {w : World} {K : PySem.W.Frag} {h : Heap} {A : List Addr}
theorem argH_at {b : Addr} {o : Obj} (hb : b ∈ A) (hk : K.lookup b = none) (e : h.get? b = some o) : argH K h A b = hoOf o := by
  unfold argH
  rw [if_pos hb, hk, if_pos (show (none : Option Obj).isNone = true from rfl), e] <;> rfl
theorem of_argH {b : Addr} {u : HO} (q : argH K h A b = some u) : b ∈ A ∧ K.lookup b = none := by
  unfold argH at q
  by_cases hb : b ∈ A
  · rw [if_pos hb] at q
    cases hk : K.lookup b with
    | none => exact ⟨hb, rfl⟩
    | some o =>
      rw [hk, if_neg (by simp)] at q
      cases q
  · rw [if_neg hb] at q
    cases q
/-- what stands tracked -/
theorem argH_is (ar : ∀ a ∈ A, ArgOb h A a) {b : Addr} {u : HO} (q : argH K h A b = some u) : K.lookup b = none ∧ ∃ vs : List Value, vs.length ≤ sizeLine ∧ (∀ u ∈ vs, OkU A u) ∧
    ((h.get? b = some { cls := .type "list", data := .seq vs.toArray } ∧ u = .frz { cls := .type "list", data := .seq vs.toArray } (.lst (vs.map toV))) ∨
     (h.get? b = some { cls := .type "tuple", data := .seq vs.toArray } ∧ u = .frz { cls := .type "tuple", data := .seq vs.toArray } (.tup (vs.map toV)))) := by
  obtain ⟨hb, hk⟩ := of_argH q
  obtain ⟨vs, h1, h2, h3⟩ := ar b hb
  refine ⟨hk, vs, h1, h2, ?_⟩
  rcases h3 with e | e
  · rw [argH_at hb hk e, hoOf_lst] at q
    exact .inl ⟨e, (Option.some.inj q).symm⟩
  · rw [argH_at hb hk e, hoOf_tup] at q
    exact .inr ⟨e, (Option.some.inj q).symm⟩
theorem argH_only (ar : ∀ a ∈ A, ArgOb h A a) : OnlyF (argH K h A) := fun b => by
  cases q : argH K h A b with
  | none => exact .inl rfl
  | some u =>
    obtain ⟨_, vs, _, _, ⟨_, e⟩ | ⟨_, e⟩⟩ := argH_is ar q
    · exact .inr ⟨_, _, by rw [e]⟩
    · exact .inr ⟨_, _, by rw [e]⟩
theorem argH_ok (ar : ∀ a ∈ A, ArgOb h A a) : HOk P w (argH K h A) h := fun b u q => by
  obtain ⟨_, vs, h1, h2, ⟨e, rfl⟩ | ⟨e, rfl⟩⟩ := argH_is ar q
  · exact ⟨e, by rw [List.length_map]; exact h1, vs, _, vals_toV h2, e⟩
  · exact ⟨e, by rw [List.length_map]; exact h1, vs, vals_toV h2, _, e, rfl, _, rfl⟩
theorem seq_inj {c c' : Value} {vs us : List Value} (e : (some { cls := c, data := .seq vs.toArray } : Option Obj) = some { cls := c', data := .seq us.toArray }) : c = c' ∧ vs = us := by
  have e1 := Option.some.inj e
  have e2 : c = c' := congrArg Obj.cls e1
  have e3 : Data.seq vs.toArray = Data.seq us.toArray := congrArg Obj.data e1
  injection e3 with e4
  refine ⟨e2, ?_⟩
  have e5 := congrArg Array.toList e4
  simpa using e5
/-- a list argument -/
theorem argL (KX : K.In h) (ar : ∀ a ∈ A, ArgOb h A a) {a : Addr} {vs : List Value} (ha : a ∈ A) (e : h.get? a = some { cls := .type "list", data := .seq vs.toArray }) : (∀ u ∈ vs, OkU A u) ∧ SqL K (argH K h A) a (vs.map toV) := by
  obtain ⟨us, h1, h2, h3⟩ := ar a ha
  have hu : us = vs := by
    rcases h3 with q | q
    · rw [e] at q
      exact (seq_inj q).2.symm
    · rw [e] at q
      exact absurd (Value.type.inj (seq_inj q).1) (by decide)
  subst hu
  refine ⟨h2, ?_⟩
  cases hk : K.lookup a with
  | none => exact .inl (.inr ⟨_, by rw [argH_at ha hk e, hoOf_lst]⟩)
  | some o =>
    have e2 := KX a o hk
    rw [e] at e2
    obtain rfl := Option.some.inj e2
    exact .inr ⟨_, us.toArray, _, hk, rfl, rfl, rfl, by rw [List.size_toArray]; exact h1, by simpa using vals_toV h2⟩
theorem argT (KX : K.In h) (ar : ∀ a ∈ A, ArgOb h A a) {a : Addr} {vs : List Value} (ha : a ∈ A) (e : h.get? a = some { cls := .type "tuple", data := .seq vs.toArray }) : (∀ u ∈ vs, OkU A u) ∧ SqT K (argH K h A) a (vs.map toV) := by
  obtain ⟨us, h1, h2, h3⟩ := ar a ha
  have hu : us = vs := by
    rcases h3 with q | q
    · rw [e] at q
      exact absurd (Value.type.inj (seq_inj q).1) (by decide)
    · rw [e] at q
      exact (seq_inj q).2.symm
  subst hu
  refine ⟨h2, ?_⟩
  cases hk : K.lookup a with
  | none => exact .inl (.inr ⟨_, by rw [argH_at ha hk e, hoOf_tup]⟩)
  | some o =>
    have e2 := KX a o hk
    rw [e] at e2
    obtain rfl := Option.some.inj e2
    exact .inr ⟨_, us.toArray, _, hk, rfl, rfl, by rw [List.size_toArray]; exact h1, by simpa using vals_toV h2⟩
mutual
theorem dw_one {Pm : Params} (KX : K.In h) (ar : ∀ a ∈ A, ArgOb h A a) : ∀ (d : WData) (v : Value), Well Pm h v d → plW d = true → OkU A v → Dw K (argH K h A) (toV v) d
  | .none, _, x, _, _ => by
    cases x
    exact .non
  | .bool b, _, x, _, _ => by
    cases x
    exact .bl b
  | .int i, _, x, _, _ => by
    cases x
    exact .int i
  | .str s, _, x, _, _ => by
    cases x
    exact .str s
  | .bytes b, _, x, _, _ => by
    cases x
    have z := Dw.byt (K := K) (H := argH K h A) b.toArray
    exact z
  | .list ds, _, x, p, hu => by
    obtain ⟨a, vs, rfl, ho, hall⟩ := well_list x
    obtain ⟨h2, hs⟩ := argL KX ar hu ho
    exact .lst hs (dw_all KX ar ds _ hall p h2)
  | .tuple ds, _, x, p, hu => by
    obtain ⟨a, vs, rfl, ho, hall⟩ := well_tuple x
    obtain ⟨h2, hs⟩ := argT KX ar hu ho
    exact .tup hs (dw_all KX ar ds _ hall p h2)
  | .float _, _, _, p, _ => Bool.noConfusion (show false = true from p)
  | .dict _, _, _, p, _ => Bool.noConfusion (show false = true from p)
  | .bytearray _, _, _, p, _ => Bool.noConfusion (show false = true from p)
  | .set _, _, _, p, _ => Bool.noConfusion (show false = true from p)
  | .frozenset _, _, _, p, _ => Bool.noConfusion (show false = true from p)
  | .obj _ _, _, _, p, _ => Bool.noConfusion (show false = true from p)
theorem dw_all {Pm : Params} (KX : K.In h) (ar : ∀ a ∈ A, ArgOb h A a) : ∀ (ds : List WData) (vs : List Value), WellAll Pm h vs ds → plWs ds = true → (∀ u ∈ vs, OkU A u) → DwAll K (argH K h A) (vs.map toV) ds
  | [], _, x, _, _ => by
    cases x
    exact .nil
  | d :: ds, _, x, p, hu => by
    obtain ⟨v, vs, rfl, x1, x2⟩ := well_cons x
    have q : plW d = true ∧ plWs ds = true := Bool.and_eq_true_iff.mp p
    exact .cons (dw_one KX ar d v x1 q.1 (hu _ (List.mem_cons_self ..))) (dw_all KX ar ds vs x2 q.2 fun u m => hu u (List.mem_cons_of_mem _ m))
end
end
/-! ### the call -/
theorem spec_call {P : Program} {w : World} {K : PySem.W.Frag} {mg mb : Str → Option Value} {CX : CXT} {k : Nat} {fa : Addr} {fd : FuncData} {ps : List Str} {sp : Sp} {s₁ : Shared} {vals : List Value} {ds : List WData} {R : PySem.W.WRecords} {cl : Str → Option Addr} {d0 : WData}
    (KX : K.In s₁.heap) (hns : s₁.heap.Ns mainGlobals mg) (hb : s₁.heap.Ns builtinsNs mb) (hbb : ∀ x : Str, x ≠ "__name__" → mb x = bootBuiltins x) (hlim : s₁.heap.NoLimit) (hg : s₁.gens = #[])
    (hwl : WellAll w.params s₁.heap vals ds) (hpl : plWs ds = true) (hwt : ∀ d ∈ ds, d.weight ≤ 1048576) (hr : Room k callerA)
    (F : ∀ base : Heap, K.In base → base.Ns mainGlobals mg → FnOk P w K mg base CX k fa fd ps sp) (hbind : ∀ (s : Shared) (us : List Value), us.length = ps.length → BindsTo s fd ⟨us, []⟩ (ps.zip us)) (hlen : ds.length = ps.length)
    (hsp : ∀ (H : Hp) (xs : List V), OnlyF H → DwAll K H xs ds → sp xs H (fun v H' => Dw K H' v d0) fun _ _ _ => False)
    (hCX : ∀ H e s', CX [] H s₁ (fun _ _ _ => False) e s' → False) :
    codeAny (model P w) callerA (.call (.ref fa) ⟨vals, []⟩) (fun r s' => ∃ u as, r = .ok (.ret u) ∧ ReadsW R cl s'.heap u d0 as ∧ OldK s₁.heap s'.heap ∧ s'.os = s₁.os ∧ AllBare s'.gens) s₁ := by
  obtain ⟨A, ho, ar⟩ := area_all ds vals hwl hpl hwt
  have hO : OnlyF (argH K s₁.heap A) := argH_only ar
  have hok : HOk P w (argH K s₁.heap A) s₁.heap := argH_ok ar
  have hS := dw_all KX ar ds vals hwl hpl ho
  have hV := vals_toV ho
  have hK : ∀ b u, argH K s₁.heap A b = some u → K.lookup b = none := fun b u q => (argH_is ar q).1
  have noA : ∀ {b : Addr} {o : Obj} {es : Array DictEntry} {ep : Nat}, s₁.heap.get? b = some o → o.data = .dict es ep → argH K s₁.heap A b = none := fun {b o es ep} e d => by
    cases q : argH K s₁.heap A b with
    | none => rfl
    | some u =>
      obtain ⟨_, vs, _, _, ⟨e2, _⟩ | ⟨e2, _⟩⟩ := argH_is ar q
      · rw [e2] at e
        cases e
        have d' : Data.seq vs.toArray _ = Data.dict es ep := d
        cases d'
      · rw [e2] at e
        cases e
        have d' : Data.seq vs.toArray _ = Data.dict es ep := d
        cases d'
  generalize argH K s₁.heap A = H at hO hok hS hK noA
  have base_of : ∀ {b : Addr} {o : Obj}, s₁.heap.get? b = some o → H b = none → (hidT s₁.heap H).get? b = some o := fun e n => hidT_get e n
  have nsK : ∀ {b : Addr} {m : Str → Option Value}, s₁.heap.Ns b m → (hidT s₁.heap H).Ns b m := fun {b m} ⟨o, es, ep, e, d, r⟩ => ⟨o, es, ep, base_of e (noA e d), d, r⟩
  have nK : ∀ b o, K.lookup b = some o → H b = none := fun b o e => by
    cases q : H b with
    | none => rfl
    | some u =>
      rw [hK b u q] at e
      cases e
  have hKb : K.In (hidT s₁.heap H) := fun b o e => base_of (KX b o e) (nK b o e)
  have hM : Mod K mg (hidT s₁.heap H) := ⟨hKb, nsK hns, ⟨mb, nsK hb, hbb⟩, let ⟨mc, h1, h2⟩ := hlim; ⟨mc, nsK h1, h2⟩⟩
  have e0 : Env0 P w K mg (hidT s₁.heap H) callerA [] s₁ H := ⟨rfl, hM, fun b o e => of_hidT e, Nat.le_of_eq (hidT_size _ _), trivial, fun b hb => absurd (show b ∈ ([] : List Addr) from hb) (by simp), hok, .of_eq hg⟩
  have hl : vals.length = ps.length := by rw [wellAll_len hwl]; exact hlen
  refine codeAny_mono ((F _ hKb (nsK hns)).run callerA [] s₁ H ⟨vals, []⟩ vals (vals.map toV) _ _ hr e0 (hbind s₁ vals hl) hV (hsp H _ hO hS)) fun r s' x => ?_
  cases r with
  | error e => exact (hCX H e s' x).elim
  | ok fl =>
    cases fl with
    | next => exact False.elim x
    | brk => exact False.elim x
    | cont => exact False.elim x
    | ret u =>
      obtain ⟨v, H', os, bare, un, hok', r', q⟩ := x
      have kept : ∀ b o, s₁.heap.get? b = some o → s'.heap.get? b = some o := fun b o e => by
        cases q2 : H b with
        | none => exact un.keep b o e q2 (by intro z; exact absurd (show b ∈ ([] : List Addr) from z) (by simp)) (by simp)
        | some u2 =>
          rcases hO b with z | ⟨ob, u3, z⟩
          · rw [q2] at z
            cases z
          · have z2 := un.frzs b ob _ z
            obtain ⟨e1, _⟩ := hok b _ z
            obtain ⟨e2, _⟩ := hok' b _ z2
            rw [e] at e1
            cases e1
            exact e2
      have KX' : K.In s'.heap := fun b o e => kept b o (KX b o e)
      obtain ⟨as, hrd⟩ := Dw.reads (R := R) (cl := cl) hok' KX' d0 v u q r'
      exact ⟨u, as, rfl, hrd, OldK.of_keep kept, os, bare⟩
/-! ### the row -/
theorem layable_weight {ds : List WData} (h : WData.layableAll ds = true) : ∀ d ∈ ds, d.weight ≤ 1048576 := fun d hd =>
  (PySem.W.layableW_iff.mp (List.all_eq_true.mp h d hd)).2.2
theorem encAll_len : ∀ (cs : List Codec) (a : Codec.denoteAll cs), (Codec.encAll cs a).length = cs.length
  | [], _ => rfl
  | c :: cs, a => by
    show (Codec.encAll cs a.2).length + 1 = cs.length + 1
    rw [encAll_len cs a.2]
/-- the goal that k_headS leaves (case hc), from the promise of the row's def: whatever the arguments that the codecs let and the row asks for, the def gives what stands for enc (f ..) -/
theorem walk_spec {r : OpenSpec} {k : Nat} {q : Program} {loose : List Str} {XP : (Str → Option Value) → Heap → Prop} {YP : World → Heap → Prop} {d : DefRec} {K : Params → PySem.W.Frag} {CX : World → CXT} {ps : List Str} {sp : World → Sp}
    (hwell : r.wellSaid = true) (hdf : d.params.defaults = []) (hlen : r.args.length = ps.length) (hr : Room k callerA)
    (hY : ∀ (w : World) (h : Heap), YP w h → (K w.params).In h)
    (F : ∀ (w : World) (mg : Str → Option Value) (fa : Addr) (h : Heap), YP w h → (K w.params).In h → h.Ns mainGlobals mg → mg d.name = some (.ref fa) →
      ∃ fd : FuncData, (∀ (s : Shared) (us : List Value), us.length = ps.length → BindsTo s fd ⟨us, []⟩ (ps.zip us)) ∧
        ∀ base : Heap, (K w.params).In base → base.Ns mainGlobals mg → FnOk r.prog w (K w.params) mg base (CX w) k fa fd ps (sp w))
    (hsp : ∀ (w : World) (H : Hp) (xs : List V) (a : Codec.denoteAll r.args), OnlyF H → Codec.withinAll r.args a = true → Codec.app r.args r.asked a = true → DwAll (K w.params) H xs (Codec.encAll r.args a) →
      sp w xs H (fun v H' => Dw (K w.params) H' v (r.ret.enc (Codec.app r.args r.f a))) fun _ _ _ => False)
    (hCX : ∀ (w : World) (H : Hp) (s : Shared) (e : Value) (s' : Shared), CX w [] H s (fun _ _ _ => False) e s' → False) :
    PySem.W.WalkOS q loose XP YP r d [] (fun f vs => PySem.call f vs) := by
  intro w s_0 s₁ mg mb G Y fa o pm cd doc dV kV ho hd hcd hD hmg hg args vals as hpre hlay hrd hwl hlo
  obtain ⟨a, e1, e2⟩ := PySem.W.os_pre_some hpre
  obtain ⟨e3, hwi⟩ := Codec.encAll_of_decAll r.args args a e1
  subst e3
  have KX := hY w _ Y
  obtain ⟨fd, hb, hF⟩ := F w mg fa _ Y KX G.T.g hmg
  refine PySem.W.enter_call (codeAny_mono (spec_call (R := []) (cl := classAt s_0.heap) (d0 := r.ret.enc (Codec.app r.args r.f a)) KX G.T.g G.T.b G.T.builtins G.T.nolimit hg hwl (pl_encAll _ _) (layable_weight hlay) hr hF hb (by rw [encAll_len]; exact hlen)
    (fun H xs hO hS => hsp w H xs a hO hwi e2 hS) fun H e s' => hCX w H s₁ e s') fun r' s' hq => ?_)
  obtain ⟨u, as', rfl, h1, h2, h3, h4⟩ := hq
  exact ⟨.inl ⟨u, _, as', rfl, fun _ => rfl, h1, (OpenSpec.post_iff hwell hwi _ _).mpr rfl, fun z => Bool.noConfusion (show false = true from z)⟩, h2, h3, h4⟩
/-- the same where the promise hangs on the written part alone -/
theorem walk_specK {r : OpenSpec} {k : Nat} {q : Program} {loose : List Str} {XP : (Str → Option Value) → Heap → Prop} {YP : World → Heap → Prop} {d : DefRec} {K : Params → PySem.W.Frag} {CX : CXT} {ps : List Str} {sp : PySem.W.Frag → Sp}
    (hwell : r.wellSaid = true) (hdf : d.params.defaults = []) (hlen : r.args.length = ps.length) (hr : Room k callerA)
    (hY : ∀ (w : World) (h : Heap), YP w h → (K w.params).In h)
    (F : ∀ (w : World) (mg : Str → Option Value) (fa : Addr) (h : Heap), YP w h → (K w.params).In h → h.Ns mainGlobals mg → mg d.name = some (.ref fa) →
      ∃ fd : FuncData, (∀ (s : Shared) (us : List Value), us.length = ps.length → BindsTo s fd ⟨us, []⟩ (ps.zip us)) ∧
        ∀ base : Heap, (K w.params).In base → base.Ns mainGlobals mg → FnOk r.prog w (K w.params) mg base CX k fa fd ps (sp (K w.params)))
    (hsp : ∀ (K : PySem.W.Frag) (H : Hp) (xs : List V) (a : Codec.denoteAll r.args), OnlyF H → Codec.withinAll r.args a = true → Codec.app r.args r.asked a = true → DwAll K H xs (Codec.encAll r.args a) →
      sp K xs H (fun v H' => Dw K H' v (r.ret.enc (Codec.app r.args r.f a))) fun _ _ _ => False)
    (hCX : ∀ (H : Hp) (s : Shared) (e : Value) (s' : Shared), CX [] H s (fun _ _ _ => False) e s' → False) :
    PySem.W.WalkOS q loose XP YP r d [] (fun f vs => PySem.call f vs) :=
  walk_spec (K := K) (CX := fun _ => CX) (sp := fun w => sp (K w.params)) hwell hdf hlen hr hY F (fun w H xs a h1 h2 h3 h4 => hsp (K w.params) H xs a h1 h2 h3 h4) fun _ H s e s' => hCX H s e s'
end L2
end


section
set_option Elab.async false
set_option linter.all false
set_option maxRecDepth 100000
set_option maxHeartbeats 2000000
namespace L3
open PySem PySem.Spec PyProof.Rows L2
/-! argument lists without stars, at a price that does not double -/
def plainE : Expr → Bool
  | .Starred _ _ => false
  | _ => true
def plainEs : List Expr → Bool
  | [] => true
  | e :: r => plainE e && plainEs r
theorem star_cons {e : Expr} {es : List Expr} {env : Env} (h : plainE e = true) : starEach (e :: es) env = (false, eval e env) :: starEach es env := by
  cases e <;> first | rfl | cases h
theorem star_none {pos : Pos} {env : Env} : ∀ {es : List Expr}, plainEs es = true → (backTo pos (starEach es env)).any (·.1) = false
  | [], _ => by
    show (backTo pos (starEach [] env)).any (·.1) = false
    rfl
  | e :: r, h => by
    have h' := Bool.and_eq_true_iff.mp h
    rw [star_cons h'.1]
    show (false || (backTo pos (starEach r env)).any (·.1)) = false
    rw [star_none h'.2]
    rfl
section
variable {X : Cx} {CX : CXT} {k : Nat} {f : Addr} {fd : FuncData} {ps : List Str} {sp : Sp} {x : Str} {p pos : Pos} {e : Expr} {es : List Expr} {te : TE} {t : TA} {id T : String} {r : List V → Hp → VK → Prop}
theorem pac (ha : PE X e te) (hr : PA X es t) (hs : plainE e = true := by rfl) : PA X (e :: es) (tCons te t) := pa_cons ha hr (star_cons hs)
/-- a call of a def of the text, every parameter given -/
theorem pcall (F : FnOk X.prog X.w X.K X.mg X.base CX0 k f fd ps sp) (hr : Room k X.A) (hm : X.mg x = some (.ref f)) (hk : PySem.W.keepIn X.K (.ref f) = true) (hb : Binds X.K fd ps [])
    (ha : PA X (e :: es) t) (hg : Gl X x := by rfl) (hs : plainEs (e :: es) = true := by rfl) (hdb : (x == ("__debug__" : Str)) = false := by decide) : PE X (.Call (.Name x p) (e :: es) [] pos) (tCall sp [] E0 t) :=
  pe_call F hr hg hm hk hb .nil pass0 ha hdb (star_cons (Bool.and_eq_true_iff.mp hs).1) (star_none (Bool.and_eq_true_iff.mp hs).2)
theorem pcallB (hc : CallR X (.builtin id) r) (hm : X.mg x = none) (hv : bootBuiltins x = some (.builtin id)) (ha : PA X (e :: es) t) (hg : Gl X x := by rfl) (hs : plainEs (e :: es) = true := by rfl) (hn : x ≠ "__name__" := by decide)
    (hdb : (x == ("__debug__" : Str)) = false := by decide) : PE X (.Call (.Name x p) (e :: es) [] pos) (tCB r t) :=
  pe_callB hc hg hm hv ha hn hdb (star_cons (Bool.and_eq_true_iff.mp hs).1) (star_none (Bool.and_eq_true_iff.mp hs).2)
theorem pcallTy (hc : CallR X (.type T) r) (hm : X.mg x = none) (hv : bootBuiltins x = some (.type T)) (ha : PA X (e :: es) t) (hg : Gl X x := by rfl) (hs : plainEs (e :: es) = true := by rfl) (hn : x ≠ "__name__" := by decide)
    (hdb : (x == ("__debug__" : Str)) = false := by decide) : PE X (.Call (.Name x p) (e :: es) [] pos) (tCB r t) :=
  pe_callTy hc hg hm hv ha hn hdb (star_cons (Bool.and_eq_true_iff.mp hs).1) (star_none (Bool.and_eq_true_iff.mp hs).2)
/-! // by a positive divisor of up to 64 bits -/
theorem log_small {j : Int} (h1 : 0 < j) (h2 : j < 18446744073709551616) : j.natAbs.log2 < 9000 := by
  have hn : j.natAbs < 2 ^ 64 := by omega
  have : j.natAbs.log2 < 64 := (Nat.log2_lt (by omega)).mpr hn
  omega
theorem op_div : OpR X (binaryOp .FloorDiv) (rI (fun _ j => 0 < j ∧ j < 18446744073709551616) fun i j => .int (i / j)) := opI fun i j _ _ _ _ _ hc q => by
  have h1 : (0 : Int) < j := hc.1
  exact floordiv_int (by omega) (by rw [Int.fdiv_eq_ediv_of_nonneg i (by omega)]; exact q) (.inl (PyProof.noPylong_of_log2 (log_small hc.1 hc.2)))
end
end L3


end
section
set_option Elab.async false
set_option linter.all false
set_option maxRecDepth 100000
set_option maxHeartbeats 2000000
namespace L3
open PySem PySem.Spec PyProof.Rows L2
section
variable {X : Cx}
theorem CallR.imp {f : Value} {r r' : List V → Hp → VK → Prop} (h : CallR X f r) (k : ∀ xs H Q, r' xs H Q → r xs H Q) : CallR X f r' := fun pins s σ H xs us Q I v q => h pins s σ H xs us Q I v (k xs H Q q)
theorem OpR.imp {f : Value → Value → Sem Value} {r r' : R2} (h : OpR X f r) (k : ∀ x y H Q, r' x y H Q → r x y H Q) : OpR X f r' := fun pins s σ H x y v u Q I rx ry q => h pins s σ H x y v u Q I rx ry (k x y H Q q)
theorem call_maxM (hc : X.calm = true) : CallR X (.builtin "max") (fun xs H Q => ∃ i j, xs = [.int i, .int j] ∧ Q (.int (max i j)) H) :=
  CallR.imp (call_max2 hc) fun xs H Q ⟨i, j, e, q⟩ => ⟨i, j, e, by
    have : (if j > i then j else i) = max i j := by
      split <;> omega
    rw [this]
    exact q⟩
theorem call_minM (hc : X.calm = true) : CallR X (.builtin "min") (fun xs H Q => ∃ i j, xs = [.int i, .int j] ∧ Q (.int (min i j)) H) :=
  CallR.imp (call_min2 hc) fun xs H Q ⟨i, j, e, q⟩ => ⟨i, j, e, by
    have : (if j < i then j else i) = min i j := by
      split <;> omega
    rw [this]
    exact q⟩
theorem op_eqI : OpR X (compareOp .Eq) (rI0 fun i j => .bl (decide (i = j))) :=
  OpR.imp op_eq fun x y H Q ⟨i, j, e1, e2, q⟩ => by
    subst e1 e2
    refine ⟨rfl, ?_⟩
    have e : decide (V.int i = V.int j) = decide (i = j) := by
      by_cases h : i = j
      · subst h
        rw [decide_eq_true rfl, decide_eq_true rfl]
      · rw [decide_eq_false h, decide_eq_false (fun z => h (V.int.inj z))]
    rw [e]
    exact q
theorem op_neI : OpR X (compareOp .NotEq) (rI0 fun i j => .bl (!decide (i = j))) :=
  OpR.imp op_ne fun x y H Q ⟨i, j, e1, e2, q⟩ => by
    subst e1 e2
    refine ⟨rfl, ?_⟩
    have e : decide (V.int i = V.int j) = decide (i = j) := by
      by_cases h : i = j
      · subst h
        rw [decide_eq_true rfl, decide_eq_true rfl]
      · rw [decide_eq_false h, decide_eq_false (fun z => h (V.int.inj z))]
    rw [e]
    exact q
/-- & 255 -/
theorem op_and8 : OpR X (binaryOp .BitAnd) (fun x y H Q => ∃ i, x = .int i ∧ y = .int 255 ∧ Q (.int (i % 256)) H) :=
  OpR.imp op_and fun x y H Q ⟨i, e1, e2, q⟩ => ⟨i, 255, e1, e2, by dsimp only; rw [bitAnd_m8]; exact q⟩
end
section
variable {X : Cx} {st : Stmt} {rest : List Stmt} {t u : TS}
/-- a block parted by a word of one's own: what holds behind its first statement -/
def tCut (t u : TS) : TS := fun D σ H => ∃ J : L2.St → Hp → Prop, t { D with nx := J } σ H ∧ ∀ σ' H', J σ' H' → u D σ' H'
theorem pss_cut (h1 : PS X st t) (h2 : PSs X rest u) : PSs X (st :: rest) (tCut t u) := by
  intro pins s σ H D I h
  obtain ⟨J, h, hJ⟩ := h
  refine wpAny_execs_cons (thn (h1 pins s σ H { D with nx := J } I h) fun f s1 q => ?_)
  cases f with
  | next =>
    obtain ⟨σ', H', I', q⟩ := q
    exact h2 pins s1 σ' H' D I' (hJ σ' H' q)
  | ret v => exact q
  | brk => exact q
  | cont => exact q
end
/-! lists of whole numbers -/
abbrev LI (K : PySem.W.Frag) (H : Hp) (a : Addr) (ns : List Int) : Prop := SqL K H a (ns.map V.int)
def nth (ns : List Int) (i : Int) : Int := ns.getD i.toNat 0
theorem at_ints {ns : List Int} {i : Int} (h0 : 0 ≤ i) (h1 : i < ns.length) : atI (ns.map V.int) i = some (.int (nth ns i)) := by
  obtain ⟨j, rfl⟩ := Int.eq_ofNat_of_zero_le h0
  refine atI_nat ?_
  have hj : j < ns.length := by omega
  unfold nth
  rw [List.getElem?_map, Int.toNat_natCast, List.getElem?_eq_getElem hj, List.getD_eq_getElem?_getD, List.getElem?_eq_getElem hj]
  rfl
theorem ix_of {n : Nat} {i : Int} (h0 : 0 ≤ i) (h1 : i < n) : ixN n i = some i.toNat := by
  unfold ixN
  rw [if_pos h0, if_pos h1]
theorem map_set_int (ns : List Int) (j : Nat) (z : Int) : (ns.map V.int).set j (.int z) = (ns.set j z).map V.int := List.map_set.symm
/-! heaps: what stays but for some addresses -/
/-- all that stood tracked stands as it was, but at the addresses of xs -/
def Rest (xs : List Addr) (H H' : Hp) : Prop := ∀ b o, b ∉ xs → H b = some o → H' b = some o
theorem Rest.refl (xs : List Addr) (H : Hp) : Rest xs H H := fun _ _ _ h => h
theorem Rest.trans {xs : List Addr} {H H1 H2 : Hp} (a : Rest xs H H1) (b : Rest xs H1 H2) : Rest xs H H2 := fun c o n h => b c o n (a c o n h)
theorem Rest.put {xs : List Addr} {H H1 : Hp} {p : Addr} (a : Rest xs H H1) (hp : p ∈ xs) (o : HO) : Rest xs H (upd H1 p o) := fun c u n h => by
  have hne : c ≠ p := fun e => n (by rw [e]; exact hp)
  rw [upd_ne hne]
  exact a c u n h
theorem Rest.li {xs : List Addr} {H H' : Hp} {K : PySem.W.Frag} {a : Addr} {vs : List V} (r : Rest xs H H') (ha : a ∉ xs) (h : SqL K H a vs) : SqL K H' a vs := by
  rcases h with (h | ⟨o, h⟩) | h
  · exact .inl (.inl (r _ _ ha h))
  · exact .inl (.inr ⟨o, r _ _ ha h⟩)
  · exact .inr h
/-! tests that are worth one truth value, the heap as it was -/
theorem tt_and {t u : TT} {σ : L2.St} {H : Hp} {Q : Bool → Hp → Prop} (b1 b2 : Bool) (h1 : ∀ Q : Bool → Hp → Prop, Q b1 H → t σ H Q) (h2 : b1 = true → ∀ Q : Bool → Hp → Prop, Q b2 H → u σ H Q) (h : Q (b1 && b2) H) : tAnd t u σ H Q := by
  refine h1 _ ?_
  cases b1 with
  | true => exact iteT (h2 rfl Q h)
  | false => exact iteF h
/-- an if by what its test is worth -/
theorem iteB {b : Bool} {A B : Prop} (h1 : b = true → A) (h2 : b = false → B) : if b = true then A else B := by
  cases b with
  | true =>
    rw [if_pos rfl]
    exact h1 rfl
  | false =>
    rw [if_neg Bool.false_ne_true]
    exact h2 rfl
theorem iteD {c A B : Prop} [Decidable c] (h1 : c → A) (h2 : ¬ c → B) : if decide c = true then A else B := by
  by_cases h : c
  · rw [decide_eq_true h, if_pos rfl]
    exact h1 h
  · rw [decide_eq_false h, if_neg Bool.false_ne_true]
    exact h2 h
end L3


end
section
set_option Elab.async false
set_option linter.all false
set_option maxRecDepth 100000
set_option maxHeartbeats 2000000
namespace L3
open PySem PySem.Spec PyProof.Rows L2
/-! sum, all, min, max of a list -/
theorem ints_arr : ∀ {ns : List Int} {its : List Value}, Vals (ns.map V.int) its → ∃ ts : List (Int × Tok), its.toArray = intItems ts.toArray ∧ ts.map (·.1) = ns
  | [], [], _ => ⟨[], by simp [intItems], rfl⟩
  | n :: ns, u :: us, .cons r t => by
    obtain ⟨k, rfl⟩ := r
    obtain ⟨ts, h1, h2⟩ := ints_arr (ns := ns) t
    refine ⟨(n, k) :: ts, ?_, by rw [List.map_cons, h2]⟩
    have e : us = ts.map fun p => Value.int p.1 p.2 := by
      have := congrArg Array.toList h1
      simpa [intItems] using this
    simp [intItems, e]
theorem numAt_of {ts : List (Int × Tok)} (i : Nat) : numAt ts.toArray i = ((ts.map (·.1))[i]?).getD 0 := by
  simp [numAt]
section
variable {X : Cx}
theorem call_sumL (hc : X.calm = true) : CallR X (.builtin "sum") (fun xs H Q => ∃ p ns, xs = [.ref p] ∧ LI X.K H p ns ∧ Q (.int ns.sum) H) := by
  intro pins s σ H xs us Q I r h
  obtain ⟨p, ns, rfl, hq, q⟩ := h
  obtain ⟨u, rfl, rx⟩ := vals1 r
  cases rx
  obtain ⟨its, rv, pl, hz⟩ := I.list hq
  obtain ⟨ts, h1, h2⟩ := ints_arr rv
  refine sum_intListG (xs := ts.toArray) (I.ok.hd hc) (h1 ▸ pl.isList) fun h' tk t' k => ⟨.int ns.sum, H, I.kept k, ⟨t', ?_⟩, q⟩
  rw [preSum_eq, List.take_of_length_le (by simp)]
  exact congrArg (Value.int · t') (congrArg List.sum h2)
theorem call_maxL (hc : X.calm = true) : CallR X (.builtin "max") (fun xs H Q => ∃ p ns, xs = [.ref p] ∧ LI X.K H p ns ∧ 0 < ns.length ∧ ∀ z, z ∈ ns → (∀ y ∈ ns, y ≤ z) → Q (.int z) H) := by
  intro pins s σ H xs us Q I r h
  obtain ⟨p, ns, rfl, hq, hn, q⟩ := h
  obtain ⟨u, rfl, rx⟩ := vals1 r
  cases rx
  obtain ⟨its, rv, pl, hz⟩ := I.list hq
  obtain ⟨ts, h1, h2⟩ := ints_arr rv
  have hl : ts.length = ns.length := by rw [← h2, List.length_map]
  refine max_intList (xs := ts.toArray) (I.ok.hd hc) (h1 ▸ pl.isList) (by simpa [hl] using hn) fun v h' tk e k => ?_
  obtain ⟨b1, b2⟩ := argBest_gt (numAt ts.toArray) (ts.toArray.size - 1)
  obtain ⟨t, rfl⟩ := intItems_at e
  have hs : ts.toArray.size = ns.length := by simp [hl]
  have hget : ∀ j, j < ns.length → numAt ts.toArray j = ns.getD j 0 := fun j hj => by rw [numAt_of, h2, List.getD_eq_getElem?_getD]
  rw [hs] at b1 b2 ⊢
  have hb : argBest (fun i j => decide (numAt ts.toArray i > numAt ts.toArray j)) (ns.length - 1) < ns.length := by omega
  refine ⟨.int _, H, I.kept k, ⟨t, rfl⟩, q _ ?_ fun y hy => ?_⟩
  · rw [hget _ hb, List.getD_eq_getElem?_getD, List.getElem?_eq_getElem hb]
    exact List.getElem_mem _
  · obtain ⟨j, hj, rfl⟩ := List.getElem_of_mem hy
    have := b2 j (by omega)
    rw [hget j hj, List.getD_eq_getElem?_getD, List.getElem?_eq_getElem hj] at this
    exact this
theorem call_minL (hc : X.calm = true) : CallR X (.builtin "min") (fun xs H Q => ∃ p ns, xs = [.ref p] ∧ LI X.K H p ns ∧ 0 < ns.length ∧ ∀ z, z ∈ ns → (∀ y ∈ ns, z ≤ y) → Q (.int z) H) := by
  intro pins s σ H xs us Q I r h
  obtain ⟨p, ns, rfl, hq, hn, q⟩ := h
  obtain ⟨u, rfl, rx⟩ := vals1 r
  cases rx
  obtain ⟨its, rv, pl, hz⟩ := I.list hq
  obtain ⟨ts, h1, h2⟩ := ints_arr rv
  have hl : ts.length = ns.length := by rw [← h2, List.length_map]
  refine min_intList (xs := ts.toArray) (I.ok.hd hc) (h1 ▸ pl.isList) (by simpa [hl] using hn) fun v h' tk e k => ?_
  obtain ⟨b1, b2⟩ := argBest_lt (numAt ts.toArray) (ts.toArray.size - 1)
  obtain ⟨t, rfl⟩ := intItems_at e
  have hs : ts.toArray.size = ns.length := by simp [hl]
  have hget : ∀ j, j < ns.length → numAt ts.toArray j = ns.getD j 0 := fun j hj => by rw [numAt_of, h2, List.getD_eq_getElem?_getD]
  rw [hs] at b1 b2 ⊢
  have hb : argBest (fun i j => decide (numAt ts.toArray i < numAt ts.toArray j)) (ns.length - 1) < ns.length := by omega
  refine ⟨.int _, H, I.kept k, ⟨t, rfl⟩, q _ ?_ fun y hy => ?_⟩
  · rw [hget _ hb, List.getD_eq_getElem?_getD, List.getElem?_eq_getElem hb]
    exact List.getElem_mem _
  · obtain ⟨j, hj, rfl⟩ := List.getElem_of_mem hy
    have := b2 j (by omega)
    rw [hget j hj, List.getD_eq_getElem?_getD, List.getElem?_eq_getElem hj] at this
    exact this
theorem bools_get : ∀ {bs : List Bool} {its : List Value}, Vals (bs.map V.bl) its → its = bs.map Value.bool
  | [], [], _ => rfl
  | b :: bs, u :: us, .cons r t => by
    cases r
    rw [List.map_cons, bools_get t]
theorem call_allL (hc : X.calm = true) : CallR X (.builtin "all") (fun xs H Q => ∃ (p : Addr) (bs : List Bool), xs = [.ref p] ∧ SqL X.K H p (bs.map V.bl) ∧ Q (.bl (bs.all id)) H) := by
  intro pins s σ H xs us Q I r h
  obtain ⟨p, bs, rfl, hq, q⟩ := h
  obtain ⟨u, rfl, rx⟩ := vals1 r
  cases rx
  obtain ⟨its, rv, pl, hz⟩ := I.list hq
  have hb := bools_get rv
  subst hb
  have hl := pl.isList
  have hlt : p < s.heap.objs.size := by obtain ⟨_, e, _⟩ := hl; exact Heap.lt_size e
  refine call_all_walk (wpAny_pyIter_list hl ?_)
  refine ⟨s.heap.objs.size, [s.heap.objs.size, p], [s.heap.objs.size], (bs.map Value.bool).toArray.size, _, _, fun i => (bs[i]?).getD true, rfl, Walks.list (A := X.A.in1) (I.ok.hd hc) _ p (Nat.ne_of_lt hlt) (bs.map Value.bool).toArray,
    ⟨⟨_, Heap.get?_push_size _ rfl, rfl, rfl⟩, hl.push _⟩, fun i v s' Q' E' hP hQ => ?_, fun h' tk hk => ?_⟩
  · have hP : (bs.map Value.bool)[i]? = some v := by simpa using hP
    rw [List.getElem?_map] at hP
    cases e : bs[i]? with
    | none => rw [e] at hP; cases hP
    | some b =>
      rw [e] at hP
      cases hP
      simp only [e, Option.getD_some] at hQ
      exact wpAny_truthy_bool hQ
  · have e : ((List.range (bs.map Value.bool).toArray.size).all fun i => (bs[i]?).getD true) = bs.all id := by
      rw [List.size_toArray, List.length_map]; exact PyProof.Rows.LSm.range_all bs
    rw [e]
    exact ⟨.bl _, H, I.kept (PyProof.Rows.LSm.kept_iter hk), rfl, q⟩
end
end L3


end
section
set_option Elab.async false
set_option linter.all false
set_option maxRecDepth 100000
set_option maxHeartbeats 2000000
namespace L3
open PySem PySem.Spec PyProof.Rows L2
/-! max(list, default = d), min likewise -/
theorem mm_args_max (a v : Value) : argsOk "max" ⟨[a], [("default", v)]⟩ := by unfold argsOk; kernel_rfl
theorem mm_args_min (a v : Value) : argsOk "min" ⟨[a], [("default", v)]⟩ := by unfold argsOk; kernel_rfl
section
variable {prog : Program} {w : World} {A : Around} {R : Result → Shared → Prop} {it : Addr} {fp wr : List Addr} {n : Nat} {P : Nat → Value → Prop} {St : Nat → Heap → Prop} {d : Value}
theorem mm_loop_max (W : Walks prog w A.in1 it fp wr n P St) (bt : Nat → Nat → Bool) (cmp : CmpOf prog w A.in1 .Gt P bt) (L : Addr) (hL : L ∉ fp) :
    ∀ (k j : Nat) (s : Shared) (vb : Value) (c : Nat), n - (j + 1) = k → j + 1 ≤ n → St (j + 1) s.heap → P (argBest bt j) vb → s.heap.get? L = some { cls := .type "list", dict := none, data := .seq #[vb, vb] c, slots := #[] } →
    (∀ v h' tk, P (argBest bt (n - 1)) v → (∀ b o, b ∉ wr → b ≠ L → s.heap.get? b = some o → h'.get? b = some o) → R (.ok (.ret v)) { s with heap := h', toks := tk }) →
    codeAny (model prog w) A (.builtin "max.loop" ⟨[.ref it, .none, .ref L], [("default", d)]⟩) R s := by
  have hw : L ∉ wr := fun h => hL (W.sub _ h)
  have nm : (toString "max" ++ toString ".loop" : String) = "max.loop" := by decide
  intro k
  induction k with
  | zero =>
    intro j s vb c e1 e2 st pb hS out
    have ej : j + 1 = n := by omega
    refine codeAny_builtin PySem.F.entry_max_loop ?_
    rw [Around.under_plainId PySem.F.plain_max_loop _]
    show wpAny _ A.in1 (seqItems? (.ref L) >>= _) _ _ s
    refine wpAny_bind (wpAny_seqItems hS rfl ?_)
    show wpAny _ A.in1 (tryCatch (pyNext (.ref it)) _ >>= _) _ _ s
    refine wpAny_bind (wpAny_tryCatch (W.done s _ _ (ej ▸ st) fun h' tk kp => ?_))
    have hS1 := kp L _ hw hS
    show wpAny _ A.in1 (updateSeq L (fun _ => #[]) >>= _) _ _ _
    refine wpAny_bind (wpAny_updateSeq hS1 rfl (wpAny_bind (wpAny_letGo (wpAny_pure ?_))))
    exact out vb _ tk (by rw [← ej]; exact pb) fun b o nb nL e => (Heap.get?_update_other _ _ (Ne.symm nL)).trans (kp b o nb e)
  | succ k ih =>
    intro j s vb c e1 e2 st pb hS out
    have lt : j + 1 < n := by omega
    refine codeAny_builtin PySem.F.entry_max_loop ?_
    rw [Around.under_plainId PySem.F.plain_max_loop _]
    show wpAny _ A.in1 (seqItems? (.ref L) >>= _) _ _ s
    refine wpAny_bind (wpAny_seqItems hS rfl ?_)
    show wpAny _ A.in1 (tryCatch (pyNext (.ref it)) _ >>= _) _ _ s
    refine wpAny_bind (wpAny_tryCatch (W.item (j + 1) s _ _ lt st fun v h' tk pv st1 kp => ?_))
    have hS1 := kp L _ hw hS
    show wpAny _ A.in1 (tryCatch (holding [v, v] (richCompare .Gt v vb >>= _)) _ >>= _) _ _ _
    refine wpAny_bind (wpAny_tryCatch (wpAny_holding (wpAny_bind (cmp (j + 1) (argBest bt j) v vb _ _ _ pv pb ?_))))
    refine wpAny_bind (wpAny_holding (wpAny_truthy_bool (wpAny_bind (wpAny_letGo (wpAny_pure ?_)))))
    cases hb : bt (j + 1) (argBest bt j) with
    | true =>
      simp only [if_true]
      refine wpAny_bind (wpAny_updateSeq hS1 rfl (wpAny_bind (wpAny_letGo ?_)))
      rw [nm]
      refine wpAny_pure ⟨plainId_quiet PySem.F.plain_max_loop _, ih (j + 1) _ v _ (by omega) lt (W.frame _ _ _ st1 fun b bf o e => ?_) (by simp only [argBest, hb, if_true]; exact pv) (Heap.get?_update_self _ hS1 rfl) fun v2 h2 tk2 p2 kp2 => ?_⟩
      · exact (Heap.get?_update_other _ _ (fun h : L = b => hL (by rw [h]; exact bf))).trans e
      · exact out v2 h2 tk2 p2 fun b o nb nL e => kp2 b o nb nL ((Heap.get?_update_other _ _ (Ne.symm nL)).trans (kp b o nb e))
    | false =>
      simp only [Bool.false_eq_true, if_false]
      refine wpAny_bind (wpAny_letGo ?_)
      rw [nm]
      refine wpAny_pure ⟨plainId_quiet PySem.F.plain_max_loop _, ih (j + 1) _ vb c (by omega) lt st1 (by simp only [argBest, hb, Bool.false_eq_true, if_false]; exact pb) hS1 fun v2 h2 tk2 p2 kp2 => ?_⟩
      exact out v2 h2 tk2 p2 fun b o nb nL e => kp2 b o nb nL (kp b o nb e)
theorem mm_first_max (W : Walks prog w A.in1 it fp wr n P St) (bt : Nat → Nat → Bool) (cmp : CmpOf prog w A.in1 .Gt P bt) (L : Addr) (hL : L ∉ fp) {s : Shared} {c : Nat} (st : St 0 s.heap)
    (hS : s.heap.get? L = some { cls := .type "list", dict := none, data := .seq #[] c, slots := #[] })
    (out : ∀ v h' tk, (n = 0 ∧ v = d ∨ 0 < n ∧ P (argBest bt (n - 1)) v) → (∀ b o, b ∉ wr → b ≠ L → s.heap.get? b = some o → h'.get? b = some o) → R (.ok (.ret v)) { s with heap := h', toks := tk }) :
    codeAny (model prog w) A (.builtin "max.loop" ⟨[.ref it, .none, .ref L], [("default", d)]⟩) R s := by
  have hw : L ∉ wr := fun h => hL (W.sub _ h)
  have nm : (toString "max" ++ toString ".loop" : String) = "max.loop" := by decide
  refine codeAny_builtin PySem.F.entry_max_loop ?_
  rw [Around.under_plainId PySem.F.plain_max_loop _]
  show wpAny _ A.in1 (seqItems? (.ref L) >>= _) _ _ s
  refine wpAny_bind (wpAny_seqItems hS rfl ?_)
  show wpAny _ A.in1 (tryCatch (pyNext (.ref it)) _ >>= _) _ _ s
  by_cases hn : 0 < n
  · refine wpAny_bind (wpAny_tryCatch (W.item 0 s _ _ hn st fun v h' tk pv st1 kp => ?_))
    have hS1 := kp L _ hw hS
    show wpAny _ A.in1 (updateSeq L (fun _ => #[v, v]) >>= _) _ _ _
    refine wpAny_bind (wpAny_updateSeq hS1 rfl ?_)
    rw [nm]
    refine wpAny_pure ⟨plainId_quiet PySem.F.plain_max_loop _, mm_loop_max W bt cmp L hL _ 0 _ v _ rfl hn (W.frame _ _ _ st1 fun b bf o e => ?_) pv (Heap.get?_update_self _ hS1 rfl) fun v2 h2 tk2 p2 kp2 => ?_⟩
    · exact (Heap.get?_update_other _ _ (fun h : L = b => hL (by rw [h]; exact bf))).trans e
    · exact out v2 h2 tk2 (.inr ⟨hn, p2⟩) fun b o nb nL e => kp2 b o nb nL ((Heap.get?_update_other _ _ (Ne.symm nL)).trans (kp b o nb e))
  · have e0 : n = 0 := by omega
    subst e0
    refine wpAny_bind (wpAny_tryCatch (W.done s _ _ st fun h' tk kp => ?_))
    refine wpAny_bind (wpAny_rule (wpAny_pure ?_))
    exact out d h' tk (.inl ⟨rfl, rfl⟩) fun b o nb nL e => kp b o nb e
theorem mm_loop_min (W : Walks prog w A.in1 it fp wr n P St) (bt : Nat → Nat → Bool) (cmp : CmpOf prog w A.in1 .Lt P bt) (L : Addr) (hL : L ∉ fp) :
    ∀ (k j : Nat) (s : Shared) (vb : Value) (c : Nat), n - (j + 1) = k → j + 1 ≤ n → St (j + 1) s.heap → P (argBest bt j) vb → s.heap.get? L = some { cls := .type "list", dict := none, data := .seq #[vb, vb] c, slots := #[] } →
    (∀ v h' tk, P (argBest bt (n - 1)) v → (∀ b o, b ∉ wr → b ≠ L → s.heap.get? b = some o → h'.get? b = some o) → R (.ok (.ret v)) { s with heap := h', toks := tk }) →
    codeAny (model prog w) A (.builtin "min.loop" ⟨[.ref it, .none, .ref L], [("default", d)]⟩) R s := by
  have hw : L ∉ wr := fun h => hL (W.sub _ h)
  have nm : (toString "min" ++ toString ".loop" : String) = "min.loop" := by decide
  intro k
  induction k with
  | zero =>
    intro j s vb c e1 e2 st pb hS out
    have ej : j + 1 = n := by omega
    refine codeAny_builtin PySem.F.entry_min_loop ?_
    rw [Around.under_plainId PySem.F.plain_min_loop _]
    show wpAny _ A.in1 (seqItems? (.ref L) >>= _) _ _ s
    refine wpAny_bind (wpAny_seqItems hS rfl ?_)
    show wpAny _ A.in1 (tryCatch (pyNext (.ref it)) _ >>= _) _ _ s
    refine wpAny_bind (wpAny_tryCatch (W.done s _ _ (ej ▸ st) fun h' tk kp => ?_))
    have hS1 := kp L _ hw hS
    show wpAny _ A.in1 (updateSeq L (fun _ => #[]) >>= _) _ _ _
    refine wpAny_bind (wpAny_updateSeq hS1 rfl (wpAny_bind (wpAny_letGo (wpAny_pure ?_))))
    exact out vb _ tk (by rw [← ej]; exact pb) fun b o nb nL e => (Heap.get?_update_other _ _ (Ne.symm nL)).trans (kp b o nb e)
  | succ k ih =>
    intro j s vb c e1 e2 st pb hS out
    have lt : j + 1 < n := by omega
    refine codeAny_builtin PySem.F.entry_min_loop ?_
    rw [Around.under_plainId PySem.F.plain_min_loop _]
    show wpAny _ A.in1 (seqItems? (.ref L) >>= _) _ _ s
    refine wpAny_bind (wpAny_seqItems hS rfl ?_)
    show wpAny _ A.in1 (tryCatch (pyNext (.ref it)) _ >>= _) _ _ s
    refine wpAny_bind (wpAny_tryCatch (W.item (j + 1) s _ _ lt st fun v h' tk pv st1 kp => ?_))
    have hS1 := kp L _ hw hS
    show wpAny _ A.in1 (tryCatch (holding [v, v] (richCompare .Lt v vb >>= _)) _ >>= _) _ _ _
    refine wpAny_bind (wpAny_tryCatch (wpAny_holding (wpAny_bind (cmp (j + 1) (argBest bt j) v vb _ _ _ pv pb ?_))))
    refine wpAny_bind (wpAny_holding (wpAny_truthy_bool (wpAny_bind (wpAny_letGo (wpAny_pure ?_)))))
    cases hb : bt (j + 1) (argBest bt j) with
    | true =>
      simp only [if_true]
      refine wpAny_bind (wpAny_updateSeq hS1 rfl (wpAny_bind (wpAny_letGo ?_)))
      rw [nm]
      refine wpAny_pure ⟨plainId_quiet PySem.F.plain_min_loop _, ih (j + 1) _ v _ (by omega) lt (W.frame _ _ _ st1 fun b bf o e => ?_) (by simp only [argBest, hb, if_true]; exact pv) (Heap.get?_update_self _ hS1 rfl) fun v2 h2 tk2 p2 kp2 => ?_⟩
      · exact (Heap.get?_update_other _ _ (fun h : L = b => hL (by rw [h]; exact bf))).trans e
      · exact out v2 h2 tk2 p2 fun b o nb nL e => kp2 b o nb nL ((Heap.get?_update_other _ _ (Ne.symm nL)).trans (kp b o nb e))
    | false =>
      simp only [Bool.false_eq_true, if_false]
      refine wpAny_bind (wpAny_letGo ?_)
      rw [nm]
      refine wpAny_pure ⟨plainId_quiet PySem.F.plain_min_loop _, ih (j + 1) _ vb c (by omega) lt st1 (by simp only [argBest, hb, Bool.false_eq_true, if_false]; exact pb) hS1 fun v2 h2 tk2 p2 kp2 => ?_⟩
      exact out v2 h2 tk2 p2 fun b o nb nL e => kp2 b o nb nL (kp b o nb e)
theorem mm_first_min (W : Walks prog w A.in1 it fp wr n P St) (bt : Nat → Nat → Bool) (cmp : CmpOf prog w A.in1 .Lt P bt) (L : Addr) (hL : L ∉ fp) {s : Shared} {c : Nat} (st : St 0 s.heap)
    (hS : s.heap.get? L = some { cls := .type "list", dict := none, data := .seq #[] c, slots := #[] })
    (out : ∀ v h' tk, (n = 0 ∧ v = d ∨ 0 < n ∧ P (argBest bt (n - 1)) v) → (∀ b o, b ∉ wr → b ≠ L → s.heap.get? b = some o → h'.get? b = some o) → R (.ok (.ret v)) { s with heap := h', toks := tk }) :
    codeAny (model prog w) A (.builtin "min.loop" ⟨[.ref it, .none, .ref L], [("default", d)]⟩) R s := by
  have hw : L ∉ wr := fun h => hL (W.sub _ h)
  have nm : (toString "min" ++ toString ".loop" : String) = "min.loop" := by decide
  refine codeAny_builtin PySem.F.entry_min_loop ?_
  rw [Around.under_plainId PySem.F.plain_min_loop _]
  show wpAny _ A.in1 (seqItems? (.ref L) >>= _) _ _ s
  refine wpAny_bind (wpAny_seqItems hS rfl ?_)
  show wpAny _ A.in1 (tryCatch (pyNext (.ref it)) _ >>= _) _ _ s
  by_cases hn : 0 < n
  · refine wpAny_bind (wpAny_tryCatch (W.item 0 s _ _ hn st fun v h' tk pv st1 kp => ?_))
    have hS1 := kp L _ hw hS
    show wpAny _ A.in1 (updateSeq L (fun _ => #[v, v]) >>= _) _ _ _
    refine wpAny_bind (wpAny_updateSeq hS1 rfl ?_)
    rw [nm]
    refine wpAny_pure ⟨plainId_quiet PySem.F.plain_min_loop _, mm_loop_min W bt cmp L hL _ 0 _ v _ rfl hn (W.frame _ _ _ st1 fun b bf o e => ?_) pv (Heap.get?_update_self _ hS1 rfl) fun v2 h2 tk2 p2 kp2 => ?_⟩
    · exact (Heap.get?_update_other _ _ (fun h : L = b => hL (by rw [h]; exact bf))).trans e
    · exact out v2 h2 tk2 (.inr ⟨hn, p2⟩) fun b o nb nL e => kp2 b o nb nL ((Heap.get?_update_other _ _ (Ne.symm nL)).trans (kp b o nb e))
  · have e0 : n = 0 := by omega
    subst e0
    refine wpAny_bind (wpAny_tryCatch (W.done s _ _ st fun h' tk kp => ?_))
    refine wpAny_bind (wpAny_rule (wpAny_pure ?_))
    exact out d h' tk (.inl ⟨rfl, rfl⟩) fun b o nb nL e => kp b o nb e
end
section
variable {X : Cx}
theorem call_max_dflt (hc : X.calm = true) {pins : List (Addr × Obj)} {s : Shared} {σ : L2.St} {H : Hp} {p : Addr} {ns : List Int} {d : Int} {td : Tok} {Q : VK} (I : L2.Inv X pins σ H s) (hq : LI X.K H p ns)
    (q : ∀ z, (ns = [] ∧ z = d ∨ z ∈ ns ∧ ∀ y ∈ ns, y ≤ z) → Q (.int z) H) : wpAny (model X.prog X.w) X.A (call (.builtin "max") [.ref p] [("default", .int d td)]) (EP X pins σ Q) X.xe s := by
  obtain ⟨its, rv, pl, hz⟩ := I.list hq
  obtain ⟨ts, h1, h2⟩ := ints_arr rv
  have hl : ts.length = ns.length := by rw [← h2, List.length_map]
  have nm : (toString "max" ++ toString ".loop" : String) = "max.loop" := by decide
  refine kmk_tree PySem.F.kind_max PySem.F.plain_max PySem.F.entry_max (mm_args_max _ _) ?_
  show wpAny _ X.A.in1 (Builtin.Builtins.bindParams "max" ["key", "default"] 0 ⟨[], [("default", .int d td)]⟩ >>= _) _ _ s
  refine wpAny_bind (wpAny_of_eq (show Builtin.Builtins.bindParams "max" ["key", "default"] 0 ⟨[], [("default", .int d td)]⟩ = pure [none, some (.int d td)] from rfl) ?_)
  refine wpAny_bind (wpAny_pure ?_)
  refine wpAny_bind (iter_intList (xs := ts.toArray) (h1 ▸ pl.isList) fun s2 e st hfp hlI => ?_)
  subst e
  refine wpAny_bind (wpAny_newObj_type ?_)
  rw [nm]
  have hLf : (s.heap.push { cls := .type "list_iterator", data := .fields #[.ref p, .int 0 0] }).objs.size ∉ [s.heap.objs.size, p] := fun hm => Nat.lt_irrefl _ (hfp _ hm)
  refine wpAny_pure ⟨plainId_quiet PySem.F.plain_max_loop _, mm_first_max (Walks.list (A := X.A.in1) (I.ok.hd hc) _ p hlI (intItems ts.toArray)) (fun i j => decide (numAt ts.toArray i > numAt ts.toArray j)) (CmpOf.ints_gt (numAt ts.toArray) (fun _ _ => intItems_at)) _ hLf
    ((Walks.list (prog := X.prog) (w := X.w) (A := X.A.in1) (I.ok.hd hc) _ p hlI (intItems ts.toArray)).frame _ _ _ st fun b _ o e => Heap.get?_push_of_some _ e) (Heap.get?_push_size _ rfl) fun v h' tk hv kp => ?_⟩
  have kk : ∀ b o, s.heap.get? b = some o → h'.get? b = some o := fun b o e => by
    have lb := Heap.lt_size e
    have e2 : (s.heap.push { cls := .type "list_iterator", data := .fields #[.ref p, .int 0 0] }).objs.size = s.heap.objs.size + 1 := Heap.size_push ..
    refine kp b o (fun hm => ?_) (by rw [e2]; exact Nat.ne_of_lt (Nat.lt_succ_of_lt lb)) (Heap.get?_push_of_some _ (Heap.get?_push_of_some _ e))
    rw [List.mem_singleton.mp hm] at lb
    exact Nat.lt_irrefl _ lb
  have hs : (intItems ts.toArray).size = ns.length := by simp [intItems, hl]
  rw [hs] at hv
  rcases hv with ⟨e0, rfl⟩ | ⟨hn, hv⟩
  · exact ⟨.int d, H, I.kept kk, ⟨td, rfl⟩, q d (.inl ⟨List.eq_nil_of_length_eq_zero e0, rfl⟩)⟩
  · obtain ⟨b1, b2⟩ := argBest_gt (numAt ts.toArray) (ns.length - 1)
    obtain ⟨t, rfl⟩ := intItems_at hv
    have hget : ∀ j, j < ns.length → numAt ts.toArray j = ns.getD j 0 := fun j hj => by rw [numAt_of, h2, List.getD_eq_getElem?_getD]
    have hb : argBest (fun i j => decide (numAt ts.toArray i > numAt ts.toArray j)) (ns.length - 1) < ns.length := by omega
    refine ⟨.int _, H, I.kept kk, ⟨t, rfl⟩, q _ (.inr ⟨?_, fun y hy => ?_⟩)⟩
    · rw [hget _ hb, List.getD_eq_getElem?_getD, List.getElem?_eq_getElem hb]
      exact List.getElem_mem _
    · obtain ⟨j, hj, rfl⟩ := List.getElem_of_mem hy
      have := b2 j (by omega)
      rw [hget j hj, List.getD_eq_getElem?_getD, List.getElem?_eq_getElem hj] at this
      exact this
/-- max(l, default=e) -/
def tMaxD (K : PySem.W.Frag) (tl td : TE) : TE := fun σ H Q => tCons tl tNil σ H fun vs H1 => td σ H1 fun y H2 => ∃ p ns d, vs = [.ref p] ∧ y = .int d ∧ LI K H2 p ns ∧ ∀ z, (ns = [] ∧ z = d ∨ z ∈ ns ∧ ∀ y ∈ ns, y ≤ z) → Q (.int z) H2
theorem pe_maxD {l e : Expr} {tl te : TE} {pn pos kp : Pos} (hc : X.calm = true) (hm : X.mg "max" = none) (hl : PE X l tl) (he : PE X e te) (hs : plainE l = true := by rfl) (hg : Gl X "max" := by rfl) :
    PE X (.Call (.Name "max" pn) [l] [⟨some "default", e, kp⟩] pos) (tMaxD X.K tl te) := by
  intro pins s σ H Q I h
  refine wpAny_Call_Name_kw (ld_blt I hg hm (show bootBuiltins "max" = some (.builtin "max") from rfl) ?_ (by decide) (by decide))
  refine callWith_kw (thn (pac hl pa_nil hs pos pins s σ H _ I h) fun us s1 ⟨vs, H1, I1, r1, q1⟩ => ?_) (by rw [star_cons hs]; rfl) (star_none (show plainEs [l] = true by show (plainE l && true) = true; rw [hs]; rfl)) rfl rfl
  refine kws_cons (thn (he pins s1 σ H1 _ I1 q1) fun u s2 ⟨y, H2, I2, r2, q2⟩ => kws_nil ?_)
  obtain ⟨p, ns, d, rfl, rfl, hL, q⟩ := q2
  obtain ⟨u2, rfl, rx⟩ := vals1 r1
  cases rx
  obtain ⟨td, rfl⟩ := r2
  exact call_max_dflt hc I2 hL q
theorem call_min_dflt (hc : X.calm = true) {pins : List (Addr × Obj)} {s : Shared} {σ : L2.St} {H : Hp} {p : Addr} {ns : List Int} {d : Int} {td : Tok} {Q : VK} (I : L2.Inv X pins σ H s) (hq : LI X.K H p ns)
    (q : ∀ z, (ns = [] ∧ z = d ∨ z ∈ ns ∧ ∀ y ∈ ns, z ≤ y) → Q (.int z) H) : wpAny (model X.prog X.w) X.A (call (.builtin "min") [.ref p] [("default", .int d td)]) (EP X pins σ Q) X.xe s := by
  obtain ⟨its, rv, pl, hz⟩ := I.list hq
  obtain ⟨ts, h1, h2⟩ := ints_arr rv
  have hl : ts.length = ns.length := by rw [← h2, List.length_map]
  have nm : (toString "min" ++ toString ".loop" : String) = "min.loop" := by decide
  refine kmk_tree PySem.F.kind_min PySem.F.plain_min PySem.F.entry_min (mm_args_min _ _) ?_
  show wpAny _ X.A.in1 (Builtin.Builtins.bindParams "min" ["key", "default"] 0 ⟨[], [("default", .int d td)]⟩ >>= _) _ _ s
  refine wpAny_bind (wpAny_of_eq (show Builtin.Builtins.bindParams "min" ["key", "default"] 0 ⟨[], [("default", .int d td)]⟩ = pure [none, some (.int d td)] from rfl) ?_)
  refine wpAny_bind (wpAny_pure ?_)
  refine wpAny_bind (iter_intList (xs := ts.toArray) (h1 ▸ pl.isList) fun s2 e st hfp hlI => ?_)
  subst e
  refine wpAny_bind (wpAny_newObj_type ?_)
  rw [nm]
  have hLf : (s.heap.push { cls := .type "list_iterator", data := .fields #[.ref p, .int 0 0] }).objs.size ∉ [s.heap.objs.size, p] := fun hm => Nat.lt_irrefl _ (hfp _ hm)
  refine wpAny_pure ⟨plainId_quiet PySem.F.plain_min_loop _, mm_first_min (Walks.list (A := X.A.in1) (I.ok.hd hc) _ p hlI (intItems ts.toArray)) (fun i j => decide (numAt ts.toArray i < numAt ts.toArray j)) (CmpOf.ints_lt (numAt ts.toArray) (fun _ _ => intItems_at)) _ hLf
    ((Walks.list (prog := X.prog) (w := X.w) (A := X.A.in1) (I.ok.hd hc) _ p hlI (intItems ts.toArray)).frame _ _ _ st fun b _ o e => Heap.get?_push_of_some _ e) (Heap.get?_push_size _ rfl) fun v h' tk hv kp => ?_⟩
  have kk : ∀ b o, s.heap.get? b = some o → h'.get? b = some o := fun b o e => by
    have lb := Heap.lt_size e
    have e2 : (s.heap.push { cls := .type "list_iterator", data := .fields #[.ref p, .int 0 0] }).objs.size = s.heap.objs.size + 1 := Heap.size_push ..
    refine kp b o (fun hm => ?_) (by rw [e2]; exact Nat.ne_of_lt (Nat.lt_succ_of_lt lb)) (Heap.get?_push_of_some _ (Heap.get?_push_of_some _ e))
    rw [List.mem_singleton.mp hm] at lb
    exact Nat.lt_irrefl _ lb
  have hs : (intItems ts.toArray).size = ns.length := by simp [intItems, hl]
  rw [hs] at hv
  rcases hv with ⟨e0, rfl⟩ | ⟨hn, hv⟩
  · exact ⟨.int d, H, I.kept kk, ⟨td, rfl⟩, q d (.inl ⟨List.eq_nil_of_length_eq_zero e0, rfl⟩)⟩
  · obtain ⟨b1, b2⟩ := argBest_lt (numAt ts.toArray) (ns.length - 1)
    obtain ⟨t, rfl⟩ := intItems_at hv
    have hget : ∀ j, j < ns.length → numAt ts.toArray j = ns.getD j 0 := fun j hj => by rw [numAt_of, h2, List.getD_eq_getElem?_getD]
    have hb : argBest (fun i j => decide (numAt ts.toArray i < numAt ts.toArray j)) (ns.length - 1) < ns.length := by omega
    refine ⟨.int _, H, I.kept kk, ⟨t, rfl⟩, q _ (.inr ⟨?_, fun y hy => ?_⟩)⟩
    · rw [hget _ hb, List.getD_eq_getElem?_getD, List.getElem?_eq_getElem hb]
      exact List.getElem_mem _
    · obtain ⟨j, hj, rfl⟩ := List.getElem_of_mem hy
      have := b2 j (by omega)
      rw [hget j hj, List.getD_eq_getElem?_getD, List.getElem?_eq_getElem hj] at this
      exact this
/-- min(l, default=e) -/
def tMinD (K : PySem.W.Frag) (tl td : TE) : TE := fun σ H Q => tCons tl tNil σ H fun vs H1 => td σ H1 fun y H2 => ∃ p ns d, vs = [.ref p] ∧ y = .int d ∧ LI K H2 p ns ∧ ∀ z, (ns = [] ∧ z = d ∨ z ∈ ns ∧ ∀ y ∈ ns, z ≤ y) → Q (.int z) H2
theorem pe_minD {l e : Expr} {tl te : TE} {pn pos kp : Pos} (hc : X.calm = true) (hm : X.mg "min" = none) (hl : PE X l tl) (he : PE X e te) (hs : plainE l = true := by rfl) (hg : Gl X "min" := by rfl) :
    PE X (.Call (.Name "min" pn) [l] [⟨some "default", e, kp⟩] pos) (tMinD X.K tl te) := by
  intro pins s σ H Q I h
  refine wpAny_Call_Name_kw (ld_blt I hg hm (show bootBuiltins "min" = some (.builtin "min") from rfl) ?_ (by decide) (by decide))
  refine callWith_kw (thn (pac hl pa_nil hs pos pins s σ H _ I h) fun us s1 ⟨vs, H1, I1, r1, q1⟩ => ?_) (by rw [star_cons hs]; rfl) (star_none (show plainEs [l] = true by show (plainE l && true) = true; rw [hs]; rfl)) rfl rfl
  refine kws_cons (thn (he pins s1 σ H1 _ I1 q1) fun u s2 ⟨y, H2, I2, r2, q2⟩ => kws_nil ?_)
  obtain ⟨p, ns, d, rfl, rfl, hL, q⟩ := q2
  obtain ⟨u2, rfl, rx⟩ := vals1 r1
  cases rx
  obtain ⟨td, rfl⟩ := r2
  exact call_min_dflt hc I2 hL q
/-! a list's items at a step -/
/-- xs[lo::st] -/
def stepped {α : Type} (xs : List α) (lo : Nat) (st : Int) : List α := (sliceRange (min (lo : Int) xs.length) xs.length st).filterMap (xs[·]?)
theorem vals_pick {xs : List V} {us : List Value} (r : Vals xs us) : ∀ ks : List Nat, Vals (ks.filterMap (xs[·]?)) (ks.filterMap (us[·]?))
  | [] => .nil
  | k :: ks => by
    have ih := vals_pick r ks
    have hl := r.length
    cases e : xs[k]? with
    | none =>
      have e2 : us[k]? = none := by
        rw [List.getElem?_eq_none_iff] at e ⊢
        omega
      rw [List.filterMap_cons_none e, List.filterMap_cons_none e2]
      exact ih
    | some x =>
      obtain ⟨u, hu, ru⟩ := r.get e
      rw [List.filterMap_cons_some e, List.filterMap_cons_some hu]
      exact .cons ru ih
theorem pick_map {α β : Type} (f : α → β) (xs : List α) : ∀ ks : List Nat, ks.filterMap ((xs.map f)[·]?) = (ks.filterMap (xs[·]?)).map f
  | [] => rfl
  | k :: ks => by
    have ih := pick_map f xs ks
    cases e : xs[k]? with
    | none =>
      have e2 : (xs.map f)[k]? = none := by rw [List.getElem?_map, e]; rfl
      rw [List.filterMap_cons_none e, List.filterMap_cons_none e2, ih]
    | some x =>
      have e2 : (xs.map f)[k]? = some (f x) := by rw [List.getElem?_map, e]; rfl
      rw [List.filterMap_cons_some e, List.filterMap_cons_some e2, ih, List.map_cons]
theorem stepped_map {α β : Type} (f : α → β) (xs : List α) (lo : Nat) (st : Int) : stepped (xs.map f) lo st = (stepped xs lo st).map f := by
  unfold stepped
  rw [pick_map, List.length_map]
theorem pick_len {α : Type} (xs : List α) : ∀ ks : List Nat, (ks.filterMap (xs[·]?)).length ≤ ks.length := fun ks => List.length_filterMap_le _ _
section
variable {X : Cx} {e lo st : Expr} {te tl ts : TE} {pos p2 : Pos}
/-- xs[lo::st], lo ≥ 0, st > 0 -/
def tStep (K : PySem.W.Frag) (te tl ts : TE) : TE := fun σ H Q => te σ H fun x H1 => tl σ H1 fun l H2 => ts σ H2 fun u H3 => ∃ a xs, ∃ (n : Nat) (c : Int), x = .ref a ∧ l = .int n ∧ u = .int c ∧ 0 < c ∧ SqL K H3 a xs ∧ ∀ p, H3 p = none → Q (.ref p) (upd H3 p (.lst (stepped xs n c)))
theorem pe_step (he : PE X e te) (hl : PE X lo tl) (hs : PE X st ts) : PE X (.Subscript e (.Slice (some lo) none (some st) p2) pos) (tStep X.K te tl ts) := by
  intro pins s σ H Q I h
  refine Subscript_ (thn (he pins s σ H _ I h) fun v s1 ⟨x, H1, I1, r1, q1⟩ => ?_)
  refine wpAny_Slice ?_
  rw [evalPart_some]
  refine thn (hl pins s1 σ H1 _ I1 q1) fun vl s2 ⟨l, H2, I2, r2, q2⟩ => ?_
  rw [evalPart_none]
  refine wpAny_pure ?_
  rw [evalPart_some]
  refine thn (hs pins s2 σ H2 _ I2 q2) fun vs s3 ⟨u, H3, I3, r3, q3⟩ => ?_
  obtain ⟨a, xs, n, c, rfl, rfl, rfl, hc, hx, q⟩ := q3
  cases r1
  obtain ⟨tl', rfl⟩ := r2
  obtain ⟨ts', rfl⟩ := r3
  have I4 : L2.Inv X pins σ H3 { s3 with heap := s3.heap.push { cls := .type "slice", data := .fields #[.int n tl', .none, .int c ts'] } } := I3.kept (t' := s3.toks) fun b ob q => Heap.get?_push_of_some _ q
  obtain ⟨its, r, ht, hz⟩ := I4.list hx
  have hlen := r.length
  show wpAny (model X.prog X.w) X.A (subscriptTail e (.Slice (some lo) none (some st) p2) (.ref a) (.ref s3.heap.objs.size)) (EP X pins σ Q) X.xe { s3 with heap := s3.heap.push { cls := .type "slice", data := .fields #[.int n tl', .none, .int c ts'] } }
  refine tail_any (ops := [.ref a, .ref s3.heap.objs.size]) ht.isList.typeIs PySem.F.slot_list_getitem.lookup ?_ (by with_unfolding_all rfl)
  refine wpAny_getItem_list_slice ht.isList (Heap.IsSliceOf.new ..) (.int n tl') .none (.int c ts') (by simp; omega) ?_ (by rw [List.size_toArray] <;> omega)
  have pk : slicePick its.toArray (some (n : Int)) none (some c) = (stepped its n c).toArray := by
    unfold slicePick stepped
    have b : sliceBounds (some (n : Int)) none (some c) its.toArray.size = (min (n : Int) its.length, (its.length : Int), c) := by
      simp only [sliceBounds, Option.getD_some, List.size_toArray, show c > 0 from hc, if_true]
      rw [if_neg (by omega), Int.max_eq_right (by omega)]
    rw [b]
    simp
  rw [pk]
  have hst : stepped its n c = (sliceRange (min (n : Int) xs.length) xs.length c).filterMap (its[·]?) := by
    unfold stepped
    rw [hlen]
  refine ⟨.ref _, _, I4.laid (t' := s3.toks) (o := .lst (stepped xs n c)) (fun b ob q => Heap.get?_push_of_some _ q) (Nat.le_refl _) ?_, rfl, q _ (I4.hok.fresh (Nat.le_refl _))⟩
  refine ⟨?_, _, 0, ?_, Heap.get?_push_size _ rfl⟩
  · refine Nat.le_trans (pick_len _ _) (Nat.le_trans (sliceRange_length_le _ _ _ xs.length (fun _ => ⟨by omega, Int.le_refl _⟩) (fun z => absurd hc z)) hz)
  · rw [hst]
    exact vals_pick r _
end
end
end L3


end
section
set_option Elab.async false
set_option linter.all false
set_option maxRecDepth 100000
set_option maxHeartbeats 2000000
namespace L3
open PySem PySem.Spec PyProof.Rows L2
/-! list(zip(a, b)): from the second pair on zip makes new pairs, as the first is held -/
/-- zip's own record, its first pair at T0 or none handed out yet -/
def ZipRec (h : Heap) (z TI TO : Addr) (f0 f1 : Value) : Prop := h.get? z = some { cls := .type "zip", dict := none, data := .fields #[f0, f1, .bool false, .ref TI, .ref TO], slots := #[] }
section
variable {prog : Program} {w : World} {A : Around} {E : Value → Shared → Prop} {s : Shared}
theorem alive_ok {M : Model} {a : Addr} {Q : Option Obj → Shared → Prop} (h : Q (s.heap.get? a) s) : wpAny M A (loadIfAlive a) Q E s := fun _ _ _ => h
theorem owned_held {z TI TO T0 : Addr} {f1 : Bool} {o0 : Obj} {Q : Bool → Shared → Prop} (hz : ZipRec s.heap z TI TO (rawInt T0) (.bool f1)) (h0 : s.heap.get? T0 = some o0)
    (hQ : ∀ h', ZipRec h' z TI TO (rawInt T0) (.bool true) → Heap.SameBut z s.heap h' → Q false { s with heap := h' }) : wpAny (model prog w) A (Builtin.SmallTypes.ownedTupleIsFree (.ref z)) Q E s := by
  unfold ZipRec at hz
  unfold Builtin.SmallTypes.ownedTupleIsFree
  refine wpAny_bind (wpAny_field hz rfl (x := rawInt T0) rfl ?_)
  show wpAny _ _ (loadIfAlive (T0 : Int).toNat >>= _) _ _ _
  refine wpAny_bind (alive_ok ?_)
  rw [Int.toNat_natCast, h0]
  simp only [Option.isNone_some, Bool.false_eq_true, if_false]
  refine wpAny_bind (wpAny_field hz rfl (x := .bool f1) rfl ?_)
  cases f1 with
  | true => exact wpAny_bind (wpAny_pure (wpAny_pure (hQ s.heap hz ⟨rfl, fun _ _ => rfl⟩)))
  | false =>
    refine wpAny_bind ?_
    show wpAny _ _ (setField (.ref z) 1 (.bool true)) _ _ _
    exact wpAny_setField_rec hz (by simp) fun h2 z2 sb => wpAny_pure (hQ h2 z2 sb)
theorem zip_more {z TI TO i1 i2 l1 l2 T0 : Addr} {k1 k2 : Nat} {xs ys : Array Value} {x y : Value} {f1 : Bool} {o0 : Obj} {Q : Value → Shared → Prop} (D : ZipApart z TI TO i1 i2 l1 l2)
    (hz : ZipRec s.heap z TI TO (rawInt T0) (.bool f1)) (h0 : s.heap.get? T0 = some o0) (hTI : IsPair s.heap TI (.ref i1) (.ref i2))
    (h1 : s.heap.IsListIter i1 l1 k1) (h2 : s.heap.IsListIter i2 l2 k2) (hl1 : s.heap.IsList l1 xs) (hl2 : s.heap.IsList l2 ys) (hx : xs[k1]? = some x) (hy : ys[k2]? = some y)
    (hQ : ∀ h', ZipRec h' z TI TO (rawInt T0) (.bool true) → h'.IsListIter i1 l1 (k1 + 1) → h'.IsListIter i2 l2 (k2 + 1) → IsPair h' s.heap.objs.size x y → h'.objs.size = s.heap.objs.size + 1 →
      (∀ c o, c ≠ z → c ≠ i1 → c ≠ i2 → s.heap.get? c = some o → h'.get? c = some o) → Q (.ref s.heap.objs.size) { s with heap := h' }) :
    wpAny (model prog w) A (Builtin.«zip.__next__» ⟨[.ref z], []⟩) (fun fin s' => ∃ v, fin = .done (.ret v) ∧ Q v s') E s := by
  have hz' := hz
  unfold ZipRec at hz'
  show wpAny _ _ (field (.ref z) 2 >>= _) _ _ _
  refine wpAny_bind (wpAny_field hz' rfl (x := .bool false) rfl ?_)
  show wpAny _ _ (field (.ref z) 3 >>= _) _ _ _
  refine wpAny_bind (wpAny_field hz' rfl (x := .ref TI) rfl ?_)
  refine wpAny_bind (wpAny_seqItems hTI rfl ?_)
  show wpAny _ _ (Builtin.SmallTypes.ownedTupleIsFree (.ref z) >>= _) _ _ _
  refine wpAny_bind (owned_held hz h0 fun hA zA sA => ?_)
  simp only [Bool.false_eq_true, if_false]
  refine wpAny_bind ?_
  rw [← Array.forIn_toList]
  simp only [List.forIn_cons, List.forIn_nil]
  refine wpAny_bind (wpAny_bind (wpAny_holding ?_))
  show wpAny _ _ (Builtin.SmallTypes.nextOf (.ref i1) >>= _) _ _ _
  refine wpAny_bind (wpAny_nextOf_list_item (h1.extBut sA.extBut D.i1z) (hl1.extBut sA.extBut D.l1z) hx fun hB iB sB => wpAny_pure (wpAny_pure ?_))
  refine wpAny_bind (wpAny_bind (wpAny_holding ?_))
  show wpAny _ _ (Builtin.SmallTypes.nextOf (.ref i2) >>= _) _ _ _
  refine wpAny_bind (wpAny_nextOf_list_item ((h2.extBut sA.extBut D.i2z).extBut sB.extBut D.i12.symm) ((hl2.extBut sA.extBut D.l2z).extBut sB.extBut D.l2i1) hy fun hC iC sC => wpAny_pure (wpAny_pure (wpAny_pure ?_)))
  refine wpAny_bind (wpAny_newTuple ?_ (by show 2 ≤ sizeLine; decide))
  have sz : hC.objs.size = s.heap.objs.size := by rw [sC.1, sB.1, sA.1]
  have up : ∀ c o, hC.get? c = some o → (hC.push { cls := .type "tuple", data := .seq (#[x, y] : Array Value) }).get? c = some o := fun c o e => Heap.get?_push_of_some _ e
  refine wpAny_pure ⟨_, rfl, ?_⟩
  show Q (.ref hC.objs.size) _
  rw [sz]
  refine hQ _ ?_ ?_ ?_ ?_ ?_ fun c o n1 n2 n3 e => ?_
  · exact up _ _ (sC.extBut _ _ D.i2z.symm (sB.extBut _ _ D.i1z.symm zA))
  · exact (iB.extBut sC.extBut D.i12).at fun o e => up _ o e
  · exact iC.at fun o e => up _ o e
  · rw [← sz]
    exact Heap.get?_push_size _ rfl
  · rw [Heap.size_push, sz]
  · exact up _ _ (sC.extBut _ _ n3 (sB.extBut _ _ n2 (sA.extBut _ _ n1 e)))
theorem zip_out {z TI TO i1 i2 l1 l2 T0 : Addr} {k1 k2 : Nat} {xs ys : Array Value} {f1 : Bool} {o0 : Obj} {Q : Fin → Shared → Prop} (hh : A.handled = none) (D : ZipApart z TI TO i1 i2 l1 l2)
    (hz : ZipRec s.heap z TI TO (rawInt T0) (.bool f1)) (h0 : s.heap.get? T0 = some o0) (hTI : IsPair s.heap TI (.ref i1) (.ref i2))
    (h1 : s.heap.IsListIter i1 l1 k1) (h2 : s.heap.IsListIter i2 l2 k2) (hl1 : s.heap.IsList l1 xs) (hl2 : s.heap.IsList l2 ys) (hx : xs[k1]? = none)
    (hE : ∀ h' e, (∀ c o, c ≠ z → c ≠ i1 → c ≠ i2 → s.heap.get? c = some o → h'.get? c = some o) → (∃ o, h'.get? e = some o ∧ o.cls = .type "StopIteration") → E (.ref e) { s with heap := h' }) :
    wpAny (model prog w) A (Builtin.«zip.__next__» ⟨[.ref z], []⟩) Q E s := by
  have hz' := hz
  unfold ZipRec at hz'
  show wpAny _ _ (field (.ref z) 2 >>= _) _ _ _
  refine wpAny_bind (wpAny_field hz' rfl (x := .bool false) rfl ?_)
  show wpAny _ _ (field (.ref z) 3 >>= _) _ _ _
  refine wpAny_bind (wpAny_field hz' rfl (x := .ref TI) rfl ?_)
  refine wpAny_bind (wpAny_seqItems hTI rfl ?_)
  show wpAny _ _ (Builtin.SmallTypes.ownedTupleIsFree (.ref z) >>= _) _ _ _
  refine wpAny_bind (owned_held hz h0 fun hA zA sA => ?_)
  simp only [Bool.false_eq_true, if_false]
  refine wpAny_bind ?_
  rw [← Array.forIn_toList]
  simp only [List.forIn_cons, List.forIn_nil]
  refine wpAny_bind (wpAny_bind (wpAny_holding ?_))
  show wpAny _ _ (Builtin.SmallTypes.nextOf (.ref i1) >>= _) _ _ _
  refine wpAny_bind (wpAny_nextOf_list_end hh (h1.extBut sA.extBut D.i1z) (hl1.extBut sA.extBut D.l1z) hx fun hB e sB he => ?_)
  exact hE hB e (fun c o n1 n2 n3 q => sB _ _ n2 (sA.extBut _ _ n1 q)) he
theorem next_more {z TI TO i1 i2 l1 l2 T0 : Addr} {k1 k2 : Nat} {xs ys : Array Value} {x y : Value} {f1 : Bool} {o0 : Obj} {Q : Option Value → Shared → Prop} (D : ZipApart z TI TO i1 i2 l1 l2)
    (hz : ZipRec s.heap z TI TO (rawInt T0) (.bool f1)) (h0 : s.heap.get? T0 = some o0) (hTI : IsPair s.heap TI (.ref i1) (.ref i2))
    (h1 : s.heap.IsListIter i1 l1 k1) (h2 : s.heap.IsListIter i2 l2 k2) (hl1 : s.heap.IsList l1 xs) (hl2 : s.heap.IsList l2 ys) (hx : xs[k1]? = some x) (hy : ys[k2]? = some y)
    (hQ : ∀ h', ZipRec h' z TI TO (rawInt T0) (.bool true) → h'.IsListIter i1 l1 (k1 + 1) → h'.IsListIter i2 l2 (k2 + 1) → IsPair h' s.heap.objs.size x y → h'.objs.size = s.heap.objs.size + 1 →
      (∀ c o, c ≠ z → c ≠ i1 → c ≠ i2 → s.heap.get? c = some o → h'.get? c = some o) → Q (some (.ref s.heap.objs.size)) { s with heap := h' }) : wpAny (model prog w) A (pyNext (.ref z)) Q E s := by
  have hT : s.TypeIs (.ref z) "zip" := ⟨_, hz, rfl⟩
  unfold pyNext
  exact wpAny_bind (wpAny_attempt (wpAny_callSpecial?_slot (name := Str.ofString "__next__") hT PySem.F.slot_zip_next (wpAny_call_entry PySem.F.slot_zip_next hT PySem.F.entry_zip_next
    (zip_more D hz h0 hTI h1 h2 hl1 hl2 hx hy fun h' a1 a2 a3 a4 a5 a6 => wpAny_pure (hQ h' a1 a2 a3 a4 a5 a6)) (PySem.F.args_zip_next_1 _))))
theorem next_out {z TI TO i1 i2 l1 l2 T0 : Addr} {k1 k2 : Nat} {xs ys : Array Value} {f1 : Bool} {o0 : Obj} {Q : Option Value → Shared → Prop} (hh : A.handled = none) (D : ZipApart z TI TO i1 i2 l1 l2)
    (hz : ZipRec s.heap z TI TO (rawInt T0) (.bool f1)) (h0 : s.heap.get? T0 = some o0) (hTI : IsPair s.heap TI (.ref i1) (.ref i2))
    (h1 : s.heap.IsListIter i1 l1 k1) (h2 : s.heap.IsListIter i2 l2 k2) (hl1 : s.heap.IsList l1 xs) (hl2 : s.heap.IsList l2 ys) (hx : xs[k1]? = none)
    (hQ : ∀ h', (∀ c o, c ≠ z → c ≠ i1 → c ≠ i2 → s.heap.get? c = some o → h'.get? c = some o) → Q none { s with heap := h' }) : wpAny (model prog w) A (pyNext (.ref z)) Q E s := by
  have hT : s.TypeIs (.ref z) "zip" := ⟨_, hz, rfl⟩
  unfold pyNext
  refine wpAny_bind (wpAny_attempt (wpAny_callSpecial?_slot (name := Str.ofString "__next__") hT PySem.F.slot_zip_next (wpAny_call_entry PySem.F.slot_zip_next hT PySem.F.entry_zip_next
    (zip_out hh D hz h0 hTI h1 h2 hl1 hl2 hx fun h' e hk he => ?_) (PySem.F.args_zip_next_1 _))))
  obtain ⟨o, ho, hc⟩ := he
  exact wpAny_bind (wpAny_isInstance (T := "StopIteration") (b := true) ⟨o, ho, hc⟩ isSubtype_stop (wpAny_pure (hQ _ hk)))
end
section
variable {X : Cx} {pins : List (Addr × Obj)} {σ : L2.St}
/-- pairs of the items of xs and ys stand at ts -/
def PairsAt (H : Hp) (xs ys : List V) (ts : List Addr) : Prop := ∀ (j : Nat) (t : Addr), ts[j]? = some t → ∃ x y, xs[j]? = some x ∧ ys[j]? = some y ∧ H t = some (.tup [x, y])
/-- the loop of list(zip(a, b)) after k turns -/
structure ZipSt (X : Cx) (pins : List (Addr × Obj)) (σ : L2.St) (H0 : Hp) (xs ys : List V) (a b z TI TO i1 i2 S : Addr) (k : Nat) (s : Shared) (H : Hp) (ts : List Addr) : Prop where
  inv : L2.Inv X pins σ H s
  same : ∀ c o, H0 c = some o → H c = some o
  lst : H S = some (.lst (ts.map V.ref))
  len : ts.length = k
  prs : PairsAt H xs ys ts
  fp : ∀ c ∈ [z, TI, TO, i1, i2], L2.FpOk X pins H c
  zip : (ts = [] ∧ ZipRec s.heap z TI TO .none (.bool false)) ∨ ∃ (T0 : Addr) (f1 : Bool), ts[0]? = some T0 ∧ ZipRec s.heap z TI TO (rawInt T0) (.bool f1)
  ti : IsPair s.heap TI (.ref i1) (.ref i2)
  to : ∃ x y, IsPair s.heap TO x y
  l1 : s.heap.IsListIter i1 a k
  l2 : s.heap.IsListIter i2 b k
theorem zip_loop (hc : X.calm = true) {H0 : Hp} {xs ys : List V} {a b z TI TO i1 i2 S : Addr} (D : ZipApart z TI TO i1 i2 a b) (ha : SqL X.K H0 a xs) (hb : SqL X.K H0 b ys) (hS0 : H0 S = none) (hl : xs.length = ys.length) {A : Around} (hA : A.handled = none) {res : Value} {R : Result → Shared → Prop}
    (out : ∀ s H ts, L2.Inv X pins σ H s → (∀ c o, H0 c = some o → H c = some o) → H S = some (.lst (ts.map V.ref)) → ts.length = xs.length → PairsAt H xs ys ts → R (.ok (.ret res)) s) :
    ∀ (n k : Nat) (s : Shared) (H : Hp) (ts : List Addr), xs.length - k = n → k ≤ xs.length → ZipSt X pins σ H0 xs ys a b z TI TO i1 i2 S k s H ts →
    codeAny (model X.prog X.w) A (.builtin "list.extend.loop" ⟨[.ref S, .ref z, res], []⟩) R s := by
  intro n
  induction n with
  | zero =>
    intro k s H ts e1 e2 Z
    have ek : k = xs.length := by omega
    subst ek
    refine codeAny_builtin PySem.F.entry_extend_loop ?_
    rw [Around.under_plainId PySem.F.plain_extend_loop _]
    show wpAny _ A.in1 (pyNext (.ref z) >>= _) _ _ s
    have qa : SqL X.K H a xs := by
      rcases ha with (h | ⟨o, h⟩) | h
      · exact .inl (.inl (Z.same _ _ h))
      · exact .inl (.inr ⟨o, Z.same _ _ h⟩)
      · exact .inr h
    have qb : SqL X.K H b ys := by
      rcases hb with (h | ⟨o, h⟩) | h
      · exact .inl (.inl (Z.same _ _ h))
      · exact .inl (.inr ⟨o, Z.same _ _ h⟩)
      · exact .inr h
    obtain ⟨its, rv, p, _⟩ := Z.inv.list qa
    obtain ⟨its2, rv2, p2, _⟩ := Z.inv.list qb
    have el := rv.length
    have none1 : its.toArray[xs.length]? = none := by simp; omega
    rcases Z.zip with ⟨et, z0⟩ | ⟨T0, f1, h0, z1⟩
    · obtain ⟨x0, y0, hTO⟩ := Z.to
      refine wpAny_bind (wpAny_pyNext_zip_end (A := A.in1) hA D z0 Z.ti hTO Z.l1 Z.l2 p.isList p2.isList (.inl none1) fun h' hk => ?_)
      refine wpAny_pure (out _ H ts (Z.inv.turnedL (t' := s.toks) (ch := [z, TI, TO, i1, i2]) (fun c o n e => hk c o (fun q => n (by simp [q])) (fun q => n (by simp [q])) (fun q => n (by simp [q])) (fun q => n (by simp [q])) e) Z.fp) Z.same Z.lst Z.len Z.prs)
    · obtain ⟨x0, y0, _, _, ht0⟩ := Z.prs 0 T0 h0
      obtain ⟨o0, ho0⟩ : ∃ o, s.heap.get? T0 = some o := by
        obtain ⟨_, its0, _, o, ho, _⟩ := Z.inv.hok T0 _ ht0
        exact ⟨o, ho⟩
      refine wpAny_bind (next_out (A := A.in1) hA D z1 ho0 Z.ti Z.l1 Z.l2 p.isList p2.isList none1 fun h' hk => ?_)
      refine wpAny_pure (out _ H ts (Z.inv.turnedL (t' := s.toks) (ch := [z, TI, TO, i1, i2]) (fun c o n e => hk c o (fun q => n (by simp [q])) (fun q => n (by simp [q])) (fun q => n (by simp [q])) e) Z.fp) Z.same Z.lst Z.len Z.prs)
  | succ n ih =>
    intro k s H ts e1 e2 Z
    have lt : k < xs.length := by omega
    refine codeAny_builtin PySem.F.entry_extend_loop ?_
    rw [Around.under_plainId PySem.F.plain_extend_loop _]
    show wpAny _ A.in1 (pyNext (.ref z) >>= _) _ _ s
    have qa : SqL X.K H a xs := by
      rcases ha with (h | ⟨o, h⟩) | h
      · exact .inl (.inl (Z.same _ _ h))
      · exact .inl (.inr ⟨o, Z.same _ _ h⟩)
      · exact .inr h
    have qb : SqL X.K H b ys := by
      rcases hb with (h | ⟨o, h⟩) | h
      · exact .inl (.inl (Z.same _ _ h))
      · exact .inl (.inr ⟨o, Z.same _ _ h⟩)
      · exact .inr h
    obtain ⟨its, rv, p, hz1⟩ := Z.inv.list qa
    obtain ⟨its2, rv2, p2, _⟩ := Z.inv.list qb
    have hx : xs[k]? = some xs[k] := List.getElem?_eq_getElem lt
    have hy : ys[k]? = some (ys[k]'(by omega)) := List.getElem?_eq_getElem (by omega)
    generalize xs[k] = x at hx
    generalize ys[k]'(by omega) = y at hy
    obtain ⟨u, hu, ru⟩ := rv.get hx
    obtain ⟨u2, hu2, ru2⟩ := rv2.get hy
    have hzl : z < s.heap.objs.size := by
      rcases Z.zip with ⟨_, q⟩ | ⟨_, _, _, q⟩
      · exact Heap.lt_size q
      · exact Heap.lt_size q
    have llt : ∀ c ∈ [z, TI, TO, i1, i2], c < s.heap.objs.size := fun c hcm => by
      have e' : c = z ∨ c = TI ∨ c = TO ∨ c = i1 ∨ c = i2 := by simpa using hcm
      rcases e' with q | q | q | q | q
      · rw [q]; exact hzl
      · rw [q]; exact Heap.lt_size Z.ti
      · obtain ⟨_, _, hTO⟩ := Z.to; rw [q]; exact Heap.lt_size hTO
      · obtain ⟨_, e, _⟩ := Z.l1; rw [q]; exact Heap.lt_size e
      · obtain ⟨_, e, _⟩ := Z.l2; rw [q]; exact Heap.lt_size e
    have nS : ∀ c ∈ [z, TI, TO, i1, i2], c ≠ S := fun c hcm e => by
      have q := (Z.fp c hcm).1
      rw [e, Z.lst] at q
      cases q
    -- one turn, whatever zip's record says of the pair that was handed out
    have turn : ∀ (h' : Heap) (T0 : Addr) (f1 : Bool), (ts ++ [s.heap.objs.size])[0]? = some T0 → ZipRec h' z TI TO (rawInt T0) (.bool f1) → (∃ x y, IsPair h' TO x y) → h'.IsListIter i1 a (k + 1) → h'.IsListIter i2 b (k + 1) → IsPair h' s.heap.objs.size u u2 →
        (∀ c o, c ∉ [z, TI, TO, i1, i2] → s.heap.get? c = some o → h'.get? c = some o) → IsPair h' TI (.ref i1) (.ref i2) →
        wpAny (model X.prog X.w) A.in1 (updateSeq S (·.push (.ref s.heap.objs.size)) >>= fun _ => again (.builtin "list.extend.loop" ⟨[.ref S, .ref z, res], []⟩))
          (fun fin s' => match fin with | .done f => R (.ok f) s' | .again c' => c'.quiet = true ∧ codeAny (model X.prog X.w) A c' R s') (fun e s' => R (.error e) s') { s with heap := h' } := fun h' T0 f1 hT0 zz hTO l1 l2 hp kp ti => by
      have new : ObjOk X.prog X.w (upd H s.heap.objs.size (.tup [x, y])) h' s.heap.objs.size (.tup [x, y]) := ⟨by show 2 ≤ sizeLine; decide, [u, u2], .cons ru (.cons ru2 .nil), ⟨_, hp, rfl, _, rfl⟩⟩
      have I1 : L2.Inv X pins σ (upd H s.heap.objs.size (.tup [x, y])) { s with heap := h' } := Z.inv.turnedNew (t' := s.toks) (ch := [z, TI, TO, i1, i2]) kp Z.fp (Nat.le_refl _) new
      have fresh : H s.heap.objs.size = none := Z.inv.hok.fresh (Nat.le_refl _)
      have sne : S ≠ s.heap.objs.size := ne_of_none Z.lst fresh
      have lS : upd H s.heap.objs.size (.tup [x, y]) S = some (.lst (ts.map V.ref)) := by rw [upd_ne sne]; exact Z.lst
      obtain ⟨hz', itsS, nS', riS, eS⟩ := I1.hok S _ lS
      have lenS := riS.length
      rw [List.length_map, Z.len] at lenS
      have tl : k < sizeLine := Nat.lt_of_lt_of_le lt hz1
      refine wpAny_bind (wpAny_updateSeq eS rfl (wpAny_pure ⟨plainId_quiet PySem.F.plain_extend_loop _, ?_⟩) (by rw [List.size_toArray]; omega) (by show (itsS.toArray.push _).size ≤ sizeLine + 1; rw [Array.size_push, List.size_toArray]; omega))
      have ho2 := Heap.get?_update_self (Obj.mapSeq (·.push (.ref s.heap.objs.size))) eS rfl
      have I2 : L2.Inv X pins σ (upd (upd H s.heap.objs.size (.tup [x, y])) S (.lst ((ts ++ [s.heap.objs.size]).map V.ref))) { s with heap := h'.update S (Obj.mapSeq (·.push (.ref s.heap.objs.size))) } := by
        refine I1.write (t' := s.toks) (by rw [lS]; trivial) (.inl rfl) (fun c o hne e => (Heap.get?_update_other _ _ (Ne.symm hne)).trans e) ⟨_, ho2⟩ ⟨by simp [Z.len]; omega, itsS ++ [.ref s.heap.objs.size], nS' + 1, ?_, ?_⟩
        · rw [List.map_append]
          exact riS.append (.cons rfl .nil)
        · rw [ho2, mapSeq_push]
          simp
      refine ih (k + 1) _ _ (ts ++ [s.heap.objs.size]) (by omega) lt ⟨I2, fun c o e => ?_, upd_same, by rw [List.length_append, Z.len]; rfl, fun j t hj => ?_, fun c hcm => ?_, .inr ⟨T0, f1, hT0, ?_⟩, ?_, ?_, ?_, ?_⟩
      · have n1 : c ≠ S := ne_of_none e hS0
        rw [upd_ne n1, upd_ne (ne_of_none (Z.same _ _ e) fresh)]
        exact Z.same _ _ e
      · by_cases hjk : j < ts.length
        · rw [List.getElem?_append_left hjk] at hj
          obtain ⟨x', y', h1, h2, h3⟩ := Z.prs j t hj
          refine ⟨x', y', h1, h2, ?_⟩
          rw [upd_ne (ne_of h3 Z.lst (by intro q; cases q)), upd_ne (ne_of_none h3 fresh)]
          exact h3
        · have ej : j = k := by
            have := (List.getElem?_eq_some_iff.mp hj).1
            rw [List.length_append, Z.len] at this
            rw [Z.len] at hjk
            simp at this
            omega
          subst ej
          have et : t = s.heap.objs.size := by
            rw [List.getElem?_append_right (by rw [Z.len]; exact Nat.le_refl _), Z.len, Nat.sub_self] at hj
            exact (Option.some.inj hj).symm
          subst et
          exact ⟨x, y, hx, hy, by rw [upd_ne sne.symm, upd_same]⟩
      · obtain ⟨f0, f1', f2, f3, f4, f5⟩ := Z.fp c hcm
        refine ⟨?_, f1', f2, f3, f4, f5⟩
        rw [upd_ne (nS c hcm), upd_ne (Nat.ne_of_lt (llt c hcm))]
        exact f0
      · exact (Heap.get?_update_other _ _ (nS z (by simp)).symm).trans zz
      · exact (Heap.get?_update_other _ _ (nS TI (by simp)).symm).trans ti
      · obtain ⟨x', y', q⟩ := hTO
        exact ⟨x', y', (Heap.get?_update_other _ _ (nS TO (by simp)).symm).trans q⟩
      · exact l1.at fun o e => (Heap.get?_update_other _ _ (nS i1 (by simp)).symm).trans e
      · exact l2.at fun o e => (Heap.get?_update_other _ _ (nS i2 (by simp)).symm).trans e
    rcases Z.zip with ⟨et, z0⟩ | ⟨T0, f1, h0, z1⟩
    · obtain ⟨x0, y0, hTO⟩ := Z.to
      refine wpAny_bind (wpAny_pyNext_zip_item (A := A.in1) D z0 Z.ti hTO Z.l1 Z.l2 p.isList p2.isList (x := u) (y := u2) (by simpa using hu) (by simpa using hu2) fun h' zz hTO' l1 l2 hT _ hk => ?_)
      refine turn h' s.heap.objs.size false (by rw [et]; rfl) zz ⟨_, _, hTO'⟩ l1 l2 hT (fun c o n e => hk c o (fun q => n (by simp [q])) (fun q => n (by simp [q])) (fun q => n (by simp [q])) (fun q => n (by simp [q])) e) ?_
      exact hk _ _ D.TIz D.TITO D.TIi1 D.TIi2 Z.ti
    · obtain ⟨x0, y0, _, _, ht0⟩ := Z.prs 0 T0 h0
      obtain ⟨o0, ho0⟩ : ∃ o, s.heap.get? T0 = some o := by
        obtain ⟨_, its0, _, o, ho, _⟩ := Z.inv.hok T0 _ ht0
        exact ⟨o, ho⟩
      obtain ⟨x1, y1, hTO⟩ := Z.to
      refine wpAny_bind (next_more (A := A.in1) D z1 ho0 Z.ti Z.l1 Z.l2 p.isList p2.isList (x := u) (y := u2) (by simpa using hu) (by simpa using hu2) fun h' zz l1 l2 hT _ hk => ?_)
      refine turn h' T0 true ?_ zz ⟨x1, y1, hk _ _ D.TOz D.TOi1 D.TOi2 hTO⟩ l1 l2 hT (fun c o n e => hk c o (fun q => n (by simp [q])) (fun q => n (by simp [q])) (fun q => n (by simp [q])) e) (hk _ _ D.TIz D.TIi1 D.TIi2 Z.ti)
      rw [List.getElem?_append_left (by have := (List.getElem?_eq_some_iff.mp h0).1; exact this)]
      exact h0
end
end L3


end
section
set_option Elab.async false
set_option linter.all false
set_option maxRecDepth 100000
set_option maxHeartbeats 2000000
namespace L3
open PySem PySem.Spec PyProof.Rows L2
theorem zip_no_len : typeLookup (.type "zip") (Str.ofString "__len__") = pure none := by rw [typeLookup_type, builtinLookup_eq_fast]; kernel_rfl
theorem zip_no_hint : typeLookup (.type "zip") (Str.ofString "__length_hint__") = pure none := by rw [typeLookup_type, builtinLookup_eq_fast]; kernel_rfl
section
variable {X : Cx} {a b : Expr} {ta : TA} {pn pz pos pos2 : Pos}
/-- list(zip(a, b)) of lists of one length -/
def tLZip (K : PySem.W.Frag) (ta : TA) : TE := fun σ H Q => ta σ H fun vs H1 => ∃ p q xs ys, vs = [.ref p, .ref q] ∧ SqL K H1 p xs ∧ SqL K H1 q ys ∧ xs.length = ys.length ∧
  ∀ (H2 : Hp) (l : Addr) (ts : List Addr), (∀ c o, H1 c = some o → H2 c = some o) → H1 l = none → H2 l = some (.lst (ts.map V.ref)) → ts.length = xs.length → PairsAt H2 xs ys ts → Q (.ref l) H2
theorem pe_lzip (hc : X.calm = true) (hl : X.mg "list" = none) (hz : X.mg "zip" = none) (ha : PA X [a, b] ta) (hs : plainEs [a, b] = true := by rfl) (hgl : Gl X "list" := by rfl) (hgz : Gl X "zip" := by rfl) :
    PE X (.Call (.Name "list" pn) [.Call (.Name "zip" pz) [a, b] [] pos2] [] pos) (tLZip X.K ta) := by
  intro pins s σ H Q I h
  have hs' := Bool.and_eq_true_iff.mp hs
  refine wpAny_Call_Name_kw (ld_blt I hgl hl (show bootBuiltins "list" = some (.type "list") from rfl) ?_ (by decide) (by decide))
  refine PyProof.Rows.callWith_type1 ?_ rfl rfl
  show wpAny _ _ (spliced ((false, eval (.Call (.Name "zip" pz) [a, b] [] pos2) X.env) :: backTo pos (starEach [] X.env))) _ _ s
  refine Calls.spliced_cons ?_
  refine wpAny_Call_Name_kw (ld_blt I hgz hz boot_zip5 ?_ (by decide) (by decide))
  refine PyProof.Rows.callWith_type1 (thn (ha pos2 pins s σ H _ I h) fun us s1 ⟨vs, H1, I1, r1, q1⟩ => ?_) (star_cons hs'.1) (star_none hs'.2)
  obtain ⟨p, q, xs, ys, rfl, hp, hq, hlen, k⟩ := q1
  obtain ⟨u1, u2, rfl, rx, ry⟩ := vals2 r1
  cases rx
  cases ry
  obtain ⟨its, rv, p1, z1⟩ := I1.list hp
  obtain ⟨its2, rv2, p2, _⟩ := I1.list hq
  have la : p < s1.heap.objs.size := p1.lt
  have lb : q < s1.heap.objs.size := p2.lt
  refine call_zip_2 p1.isList p2.isList fun h' zz ti to l1 l2 hsz hk => ?_
  refine Calls.spliced_nil ?_
  have I2 : L2.Inv X pins σ H1 { s1 with heap := h' } := I1.kept (t' := s1.toks) hk
  have D : ZipApart (s1.heap.objs.size + 4) (s1.heap.objs.size + 2) (s1.heap.objs.size + 3) s1.heap.objs.size (s1.heap.objs.size + 1) p q := PySem.W.ktu_apart s1.heap.objs.size p q la lb
  have f2 : ∀ c ∈ [s1.heap.objs.size + 4, s1.heap.objs.size + 2, s1.heap.objs.size + 3, s1.heap.objs.size, s1.heap.objs.size + 1], L2.FpOk X pins H1 c := fun c hcm => by
    have hle : s1.heap.objs.size ≤ c := by
      have e' : c = s1.heap.objs.size + 4 ∨ c = s1.heap.objs.size + 2 ∨ c = s1.heap.objs.size + 3 ∨ c = s1.heap.objs.size ∨ c = s1.heap.objs.size + 1 := by simpa using hcm
      rcases e' with z | z | z | z | z
      · rw [z]; exact Nat.le_add_right _ _
      · rw [z]; exact Nat.le_add_right _ _
      · rw [z]; exact Nat.le_add_right _ _
      · rw [z]; exact Nat.le_refl _
      · rw [z]; exact Nat.le_add_right _ _
    exact I1.fpOk hle (I1.hok.fresh hle)
  generalize s1.heap.objs.size + 4 = z at zz D f2 ⊢
  generalize s1.heap.objs.size + 2 = TI at zz ti D f2
  generalize s1.heap.objs.size + 3 = TO at zz to D f2
  generalize s1.heap.objs.size + 1 = i2 at ti l2 D f2
  generalize s1.heap.objs.size = i1 at ti l1 D f2
  generalize hs2 : ({ s1 with heap := h' } : Shared) = s2 at I2
  have eh : h' = s2.heap := by rw [← hs2]
  rw [eh] at zz ti to l1 l2
  clear hs2 eh hsz hk
  -- list.__new__
  refine callType_codes (Q₁ := fun obj s₁ => obj = .ref s2.heap.objs.size ∧ s₁ = { s2 with heap := s2.heap.push { cls := .type "list", data := .seq #[] } }) PySem.F.called_list (PySem.F.typeCall_list_1 _) PySem.F.entry_list_init (code_list_new _ ⟨rfl, rfl⟩) fun obj s3 h3 => ?_
  obtain ⟨rfl, rfl⟩ := h3
  generalize hSdef : s2.heap.objs.size = S
  have hS : (s2.heap.push { cls := .type "list", data := .seq #[] }).get? S = some { cls := .type "list", data := .seq #[] } := by rw [← hSdef]; exact Heap.get?_push_size _ rfl
  have up : ∀ c o, s2.heap.get? c = some o → (s2.heap.push { cls := .type "list", data := .seq #[] }).get? c = some o := fun c o e => Heap.get?_push_of_some _ e
  have freshS : H1 S = none := I2.hok.fresh (Nat.le_of_eq hSdef)
  have I3 : L2.Inv X pins σ (upd H1 S (.lst [])) { s2 with heap := s2.heap.push { cls := .type "list", data := .seq #[] } } := I2.laid (t' := s2.toks) up (Nat.le_of_eq hSdef) ⟨Nat.zero_le _, [], 0, .nil, hS⟩
  have lt2 : ∀ c ∈ [z, TI, TO, i1, i2], c ≠ S := fun c hcm e => by
    have e' : c = z ∨ c = TI ∨ c = TO ∨ c = i1 ∨ c = i2 := by simpa using hcm
    have lt : c < s2.heap.objs.size := by
      rcases e' with q | q | q | q | q
      · rw [q]; exact Heap.lt_size zz
      · rw [q]; exact Heap.lt_size ti
      · rw [q]; exact Heap.lt_size to
      · obtain ⟨_, e, _⟩ := l1; rw [q]; exact Heap.lt_size e
      · obtain ⟨_, e, _⟩ := l2; rw [q]; exact Heap.lt_size e
    rw [e, hSdef] at lt
    exact Nat.lt_irrefl _ lt
  have hT : ∀ h2 : Heap, h2.get? z = s2.heap.get? z → ({ s2 with heap := h2 } : Shared).TypeIs (.ref z) "zip" := fun h2 e => ⟨_, e.trans zz, rfl⟩
  refine ⟨⟨_, hS, rfl⟩, PySem.F.args_list_init_2 _ _, ?_⟩
  show wpAny _ X.A.in1.in1 (do let old ← Builtin.List.listItems (.ref S); Builtin.List.listUpdate (.ref S) (fun _ => #[]); letGo old.toList.reverse; Builtin.List.listExtendWith (.ref S) (.ref z) .none) _ _ _
  refine wpAny_bind ?_
  unfold Builtin.List.listItems
  refine wpAny_bind (wpAny_seqItems hS rfl (wpAny_pure ?_))
  show wpAny _ _ (updateSeq S (fun _ => #[]) >>= fun _ => letGo (#[] : Array Value).toList.reverse >>= fun _ => Builtin.List.listExtendWith (.ref S) (.ref z) .none) _ _ _
  refine wpAny_bind (wpAny_updateSeq hS rfl ?_)
  have hSa := Heap.get?_update_self (Obj.mapSeq (fun _ => (#[] : Array Value))) hS rfl
  have oth : ∀ (h : Heap) (f : Obj → Obj) c o, c ≠ S → h.get? c = some o → (h.update S f).get? c = some o := fun h f c o n e => (Heap.get?_update_other _ _ (Ne.symm n)).trans e
  refine wpAny_bind (wpAny_letGo ?_)
  generalize hhA : (s2.heap.push { cls := .type "list", data := .seq #[] }).update S (Obj.mapSeq (fun _ => (#[] : Array Value))) = hA at hSa
  have kA : ∀ c o, c ≠ S → s2.heap.get? c = some o → hA.get? c = some o := fun c o n e => by rw [← hhA]; exact oth _ _ c o n (up c o e)
  unfold Builtin.List.listExtendWith
  have zA : ZipRec hA z TI TO .none (.bool false) := kA _ _ (lt2 z (by simp)) zz
  have tyA : ({ s2 with heap := hA } : Shared).TypeIs (.ref z) "zip" := ⟨_, zA, rfl⟩
  refine wpAny_bind (wpAny_typeOf tyA ?_)
  have e1 : Builtin.List.listSameRef (.ref S) (.ref z) = false := by simp [Builtin.List.listSameRef, (lt2 z (by simp)).symm]
  have e2 : (Value.type "zip" == Value.type "list") = false := by decide
  have e3 : (Value.type "zip" == Value.type "tuple") = false := by decide
  simp only [e1, e2, e3, Bool.or_false, Bool.false_eq_true, if_false]
  refine wpAny_bind (wpAny_pyIter_zip zA ?_)
  refine wpAny_bind (wpAny_holding ?_)
  unfold Builtin.List.listLengthHint
  refine wpAny_bind (wpAny_specialOf tyA zip_no_len ?_)
  show wpAny _ _ (specialOf (Value.ref z) (Str.ofString "__length_hint__") >>= _) _ _ _
  refine wpAny_bind (wpAny_specialOf tyA zip_no_hint ?_)
  refine wpAny_pure ?_
  show wpAny _ _ (rule "list.extend.makes-room" >>= fun _ => Builtin.List.listTouch (.ref S) >>= fun _ => again (.builtin "list.extend.loop" ⟨[.ref S, .ref z, .none], []⟩)) _ _ _
  refine wpAny_bind (wpAny_rule ?_)
  refine wpAny_bind ?_
  show wpAny _ _ (updateSeq S (·.push .none) >>= fun _ => updateSeq S (·.pop)) _ _ _
  refine wpAny_bind (wpAny_updateSeq hSa rfl ?_)
  have hSb := Heap.get?_update_self (Obj.mapSeq (·.push Value.none)) hSa rfl
  refine wpAny_updateSeq (hz := by seq_fits) hSb rfl ?_
  have hSc := Heap.get?_update_self (Obj.mapSeq (·.pop)) hSb rfl
  generalize hhC : (hA.update S (Obj.mapSeq (·.push Value.none))).update S (Obj.mapSeq (·.pop)) = hC at hSc
  have kC : ∀ c o, c ≠ S → s2.heap.get? c = some o → hC.get? c = some o := fun c o n e => by rw [← hhC]; exact oth _ _ c o n (oth _ _ c o n (kA c o n e))
  have kC3 : ∀ c o, c ≠ S → (s2.heap.push { cls := .type "list", data := .seq #[] }).get? c = some o → hC.get? c = some o := fun c o n e => by rw [← hhC, ← hhA]; exact oth _ _ c o n (oth _ _ c o n (oth _ _ c o n e))
  have I4 : L2.Inv X pins σ (upd (upd H1 S (.lst [])) S (.lst [])) { s2 with heap := hC } := I3.write (t' := s2.toks) (by rw [upd_same]; trivial) (.inl rfl) kC3 ⟨_, hSc⟩ ⟨Nat.zero_le _, [], _, .nil, hSc⟩
  refine wpAny_pure ⟨plainId_quiet PySem.F.plain_extend_loop _, ?_⟩
  have uu : ∀ c o, H1 c = some o → upd (upd H1 S (.lst [])) S (.lst []) c = some o := fun c o e => by
    have n := ne_of_none e freshS
    rw [upd_ne n, upd_ne n]
    exact e
  refine zip_loop (X := X) (pins := pins) (σ := σ) (H0 := H1) (A := X.A.in1) hc D hp hq freshS hlen (I1.ok.hd hc) (fun s' H' ts I' same lst len prs => ?_) xs.length 0 _ _ [] rfl (Nat.zero_le _) ⟨I4, uu, upd_same, rfl, fun j t hj => by simp at hj, fun c hcm => ?_, .inl ⟨rfl, kC _ _ (lt2 z (by simp)) zz⟩, kC _ _ (lt2 TI (by simp)) ti, ⟨_, _, kC _ _ (lt2 TO (by simp)) to⟩, l1.at fun o e => kC _ o (lt2 i1 (by simp)) e, l2.at fun o e => kC _ o (lt2 i2 (by simp)) e⟩
  · exact ⟨rfl, .ref S, H', I', rfl, k H' S ts same freshS lst len prs⟩
  · obtain ⟨f0, f1, f2', f3, f4, f5⟩ := f2 c hcm
    refine ⟨?_, f1, f2', f3, f4, f5⟩
    rw [upd_ne (lt2 c hcm), upd_ne (lt2 c hcm)]
    exact f0
end
section
variable {X : Cx} {a b c : Expr} {ta : TA} {pn pz pos pos2 : Pos}
theorem items_ints : ∀ (n : Nat) (f : Nat → Int) (acc : List Value), acc.length = n → (∀ j v, acc[j]? = some v → ∃ t, v = Value.int (f j) t) → Vals (((List.range n).map f).map V.int) acc
  | 0, f, [], _, _ => .nil
  | n + 1, f, v :: acc, hl, h => by
    obtain ⟨t, rfl⟩ := h 0 v rfl
    have ih := items_ints n (fun j => f (j + 1)) acc (by simpa using hl) fun j w hj => h (j + 1) w hj
    have e : ((List.range (n + 1)).map f).map V.int = V.int (f 0) :: ((List.range n).map fun j => f (j + 1)).map V.int := by
      rw [List.range_succ_eq_map, List.map_cons, List.map_cons, List.map_map, List.map_map, List.map_map]
      rfl
    rw [e]
    exact .cons ⟨t, rfl⟩ ih
/-- list(range(i, j, c)) -/
def tLRng (ta : TA) : TE := fun σ H Q => ta σ H fun vs H1 => ∃ (i j c : Int) (n : Nat), vs = [.int i, .int j, .int c] ∧ RgC i j c n ∧ n ≤ 16777216 ∧ ∀ l, H1 l = none → Q (.ref l) (upd H1 l (.lst (((List.range n).map fun k : Nat => i + (k : Int) * c).map V.int)))
theorem pe_lrange (hcm : X.calm = true) (hl : X.mg "list" = none) (hz : X.mg "range" = none) (ha : PA X [a, b, c] ta) (hs : plainEs [a, b, c] = true := by rfl) (hgl : Gl X "list" := by rfl) (hgz : Gl X "range" := by rfl) :
    PE X (.Call (.Name "list" pn) [.Call (.Name "range" pz) [a, b, c] [] pos2] [] pos) (tLRng ta) := by
  intro pins s σ H Q I h
  have hs' := Bool.and_eq_true_iff.mp hs
  refine wpAny_Call_Name_kw (ld_blt I hgl hl (show bootBuiltins "list" = some (.type "list") from rfl) ?_ (by decide) (by decide))
  refine PyProof.Rows.callWith_type1 ?_ rfl rfl
  show wpAny _ _ (spliced ((false, eval (.Call (.Name "range" pz) [a, b, c] [] pos2) X.env) :: backTo pos (starEach [] X.env))) _ _ s
  refine Calls.spliced_cons ?_
  refine wpAny_Call_Name_kw (ld_blt I hgz hz boot_range ?_ (by decide) (by decide))
  refine PyProof.Rows.callWith_type1 (thn (ha pos2 pins s σ H _ I h) fun us s1 ⟨vs, H1, I1, r1, q1⟩ => ?_) (star_cons hs'.1) (star_none hs'.2)
  obtain ⟨i, j, k, n, rfl, ⟨c0, c1, c2, c3⟩, hn, q⟩ := q1
  cases r1 with
  | cons r rr =>
    cases rr with
    | cons r' rr =>
      cases rr with
      | cons r'' rr =>
        cases rr
        obtain ⟨t, rfl⟩ := r
        obtain ⟨t', rfl⟩ := r'
        obtain ⟨t'', rfl⟩ := r''
        refine call_range_3 c0 ?_ (.inl (PyProof.noPylong_small c1))
        refine Calls.spliced_nil ?_
        have I2 : L2.Inv X pins σ H1 { s1 with heap := s1.heap.push { cls := .type "range", data := .fields #[.int i t, .int j t', .int k t''] } } := I1.kept (t' := s1.toks) fun b o e => Heap.get?_push_of_some _ e
        refine call_list_range (n := n) (I1.ok.hd hcm) (IsRange.new ..) c2 c3 hn fun h' tk acc c' kp hacc its => ?_
        refine ⟨.ref _, _, I2.laid (t' := tk) (o := .lst (((List.range n).map fun k' : Nat => i + (k' : Int) * k).map V.int)) kp (Nat.le_refl _) ⟨?_, acc.toList, c', ?_, ?_⟩, rfl, q _ (I2.hok.fresh (Nat.le_refl _))⟩
        · rw [List.length_map, List.length_map, List.length_range, sizeLine_eq]
          exact hn
        · exact items_ints n _ acc.toList (by rw [Array.length_toList, its.1]) fun j v hj => its.2 j v (by rw [Array.getElem?_toList] at hj; exact hj)
        · exact hacc
end
end L3


end
section
set_option Elab.async false
set_option linter.all false
set_option maxRecDepth 100000
set_option maxHeartbeats 2000000
namespace L3
open PySem PySem.Spec PyProof.Rows L2
/-! instances by their fields -/
def InsAt (C : Addr) (H : Hp) (a : Addr) (fs : List (Str × V)) : Prop := ∃ dx, H a = some (.ins C dx fs)
theorem InsAt.same {C : Addr} {H H' : Hp} {a : Addr} {fs : List (Str × V)} (h : InsAt C H a fs) (e : Same H H') : InsAt C H' a fs := let ⟨dx, q⟩ := h; ⟨dx, e _ _ q⟩
theorem InsAt.rest {C : Addr} {H H' : Hp} {a : Addr} {fs : List (Str × V)} {xs : List Addr} (h : InsAt C H a fs) (e : Rest xs H H') (n : a ∉ xs) : InsAt C H' a fs := let ⟨dx, q⟩ := h; ⟨dx, e _ _ n q⟩
structure Fields (K : PySem.W.Frag) (C : Addr) (ns : List Str) : Prop where
  cl : Cls K C
  no : ∀ f ∈ ns, NoAttr K C f
theorem fld_ok {K : PySem.W.Frag} {C : Addr} {ns : List Str} {H : Hp} {a : Addr} {fs : List (Str × V)} {f : Str} {v : V} {R : V → Prop} (h : InsAt C H a fs) (T : Fields K C ns) (hm : f ∈ ns) (hl : fs.lookup f = some v) (k : R v) :
    ∃ a' C' dx fs' v', V.ref a = .ref a' ∧ H a' = some (.ins C' dx fs') ∧ Cls K C' ∧ NoAttr K C' f ∧ fs'.lookup f = some v' ∧ R v' :=
  let ⟨dx, q⟩ := h
  ⟨a, C, dx, fs, v, rfl, q, T.cl, T.no f hm, hl, k⟩
theorem meth_ok {C : Addr} {H : Hp} {a : Addr} {fs : List (Str × V)} {m : Str} {R : Prop} (h : InsAt C H a fs) (hl : fs.lookup m = none) (k : R) : ∃ a' dx fs', V.ref a = .ref a' ∧ H a' = some (.ins C dx fs') ∧ fs'.lookup m = none ∧ R :=
  let ⟨dx, q⟩ := h
  ⟨a, dx, fs, rfl, q, hl, k⟩
theorem _root_.L2.Same.put_new {H : Hp} {l : Addr} {o : HO} (h : H l = none) : Same H (upd H l o) := fun b u e => by
  rw [upd_ne (ne_of_none e h)]
  exact e
theorem _root_.L2.Same.tup {K : PySem.W.Frag} {H H' : Hp} {a : Addr} {xs : List V} (e : Same H H') (h : SqT K H a xs) : SqT K H' a xs := by
  rcases h with (h | ⟨o, h⟩) | h
  · exact .inl (.inl (e _ _ h))
  · exact .inl (.inr ⟨o, e _ _ h⟩)
  · exact .inr h
theorem _root_.L2.Same.rest {H H' : Hp} {xs : List Addr} (e : Same H H') : Rest xs H H' := fun b o _ h => e b o h
/-! comprehensions without tests, which change nothing that stands -/
section
variable {K : PySem.W.Frag} {g : TG} {te : TE} {vs : List Nat} {σ : L2.St} {H1 : Hp} {D : Addr} {Qd : Hp → Prop}
/-- the new list so far -/
def Sofar (H1 : Hp) (D : Addr) (Y : Nat → V → Hp → Prop) (i : Nat) (H : Hp) : Prop := Same H1 H ∧ ∃ ys : List V, H D = some (.lst ys) ∧ ys.length = i ∧ ∀ j y, ys[j]? = some y → Y j y H
theorem Sofar.start {Y : Nat → V → Hp → Prop} (hD : H1 D = none) : Sofar H1 D Y 0 (upd H1 D (.lst [])) := ⟨Same.put_new hD, [], upd_same, rfl, fun j y h => by simp at h⟩
theorem Sofar.next {Y : Nat → V → Hp → Prop} {i : Nat} {H H4 : Hp} {y : V} (hD : H1 D = none) (mono : ∀ i y H H', Y i y H → Rest [D] H H' → Y i y H') (p : Sofar H1 D Y i H) (s : Same H H4) (hy : Y i y H4) (hi : i < sizeLine) :
    ∃ acc, H4 D = some (.lst acc) ∧ acc.length < sizeLine ∧ Sofar H1 D Y (i + 1) (upd H4 D (.lst (acc ++ [y]))) := by
  obtain ⟨s1, ys, hD2, hl, hY⟩ := p
  refine ⟨ys, s _ _ hD2, by rw [hl]; exact hi, ?_, ys ++ [y], upd_same, by rw [List.length_append, hl]; rfl, fun j z hj => ?_⟩
  · intro b o e
    rw [upd_ne (ne_of_none e hD)]
    exact s _ _ (s1 _ _ e)
  · have r : Rest [D] H4 (upd H4 D (.lst (ys ++ [y]))) := (Rest.refl _ _).put (by simp) _
    by_cases hj2 : j < ys.length
    · rw [List.getElem?_append_left hj2] at hj
      exact mono _ _ _ _ (mono _ _ _ _ (hY j z hj) s.rest) r
    · have ej : j = i := by
        have := (List.getElem?_eq_some_iff.mp hj).1
        rw [List.length_append] at this
        simp at this
        omega
      subst ej
      rw [List.getElem?_append_right (by omega), hl, Nat.sub_self] at hj
      cases hj
      exact mono _ _ _ _ hy r
theorem lcm_list {a : Addr} {xs : List V} (Y : Nat → V → Hp → Prop) (hD : H1 D = none) (hl : SqL K H1 a xs) (hn : xs.length ≤ sizeLine) (mono : ∀ i y H H', Y i y H → Rest [D] H H' → Y i y H')
    (hs : ∀ i x H (Kt : V → Hp → Prop), xs[i]? = some x → Same H1 H → (∃ acc, H D = some (.lst acc)) → (∀ y H4, Same H H4 → Y i y H4 → Kt y H4) → g x (wipe σ vs) H fun σ2 H2 => wipe σ2 vs = wipe σ vs ∧ te σ2 H2 Kt)
    (hd : ∀ H ys, Same H1 H → H D = some (.lst ys) → ys.length = xs.length → (∀ i y, ys[i]? = some y → Y i y H) → Qd H) :
    ∃ W : Nat → Nat → Hp → Prop, (∃ m, W 0 m (upd H1 D (.lst []))) ∧ ∀ i m H, W i m H →
      ((Itl K a).stop i H ∧ Qd H) ∨ ((Itl K a).go i H ∧ ∃ Nx : Hp → Prop, (∀ H', Nx H' → ∃ m', m' < m ∧ W (i + 1) m' H') ∧ ∀ x H', (Itl K a).yld i H x H' → g x (wipe σ vs) H' fun σ2 H2 => wipe σ2 vs = wipe σ vs ∧ tYes σ2 H2 fun b H3 =>
        if b = true then te σ2 H3 fun y H4 => ∃ acc, H4 D = some (.lst acc) ∧ acc.length < sizeLine ∧ Nx (upd H4 D (.lst (acc ++ [y]))) else Nx H3) := by
  refine lc_list (Sofar H1 D Y) (Sofar.start hD) (fun i H _ p => p.1.seq hl) (fun i x H hx p => ?_) fun H p => ?_
  · unfold tYes
    simp only [if_true]
    exact hs i x H _ hx p.1 (let ⟨ys, q, _⟩ := p.2; ⟨ys, q⟩) fun y H4 s hy => p.next hD mono s hy (Nat.lt_of_lt_of_le (List.getElem?_eq_some_iff.mp hx).1 hn)
  · obtain ⟨s1, ys, h1, h2, h3⟩ := p
    exact hd H ys s1 h1 h2 h3
theorem lcm_tup {a : Addr} {xs : List V} (Y : Nat → V → Hp → Prop) (hD : H1 D = none) (hl : SqT K H1 a xs) (hn : xs.length ≤ sizeLine) (mono : ∀ i y H H', Y i y H → Rest [D] H H' → Y i y H')
    (hs : ∀ i x H (Kt : V → Hp → Prop), xs[i]? = some x → Same H1 H → (∃ acc, H D = some (.lst acc)) → (∀ y H4, Same H H4 → Y i y H4 → Kt y H4) → g x (wipe σ vs) H fun σ2 H2 => wipe σ2 vs = wipe σ vs ∧ te σ2 H2 Kt)
    (hd : ∀ H ys, Same H1 H → H D = some (.lst ys) → ys.length = xs.length → (∀ i y, ys[i]? = some y → Y i y H) → Qd H) :
    ∃ W : Nat → Nat → Hp → Prop, (∃ m, W 0 m (upd H1 D (.lst []))) ∧ ∀ i m H, W i m H →
      ((Itt K a).stop i H ∧ Qd H) ∨ ((Itt K a).go i H ∧ ∃ Nx : Hp → Prop, (∀ H', Nx H' → ∃ m', m' < m ∧ W (i + 1) m' H') ∧ ∀ x H', (Itt K a).yld i H x H' → g x (wipe σ vs) H' fun σ2 H2 => wipe σ2 vs = wipe σ vs ∧ tYes σ2 H2 fun b H3 =>
        if b = true then te σ2 H3 fun y H4 => ∃ acc, H4 D = some (.lst acc) ∧ acc.length < sizeLine ∧ Nx (upd H4 D (.lst (acc ++ [y]))) else Nx H3) := by
  refine lc_tup (Sofar H1 D Y) (Sofar.start hD) (fun i H _ p => Same.tup p.1 hl) (fun i x H hx p => ?_) fun H p => ?_
  · unfold tYes
    simp only [if_true]
    exact hs i x H _ hx p.1 (let ⟨ys, q, _⟩ := p.2; ⟨ys, q⟩) fun y H4 s hy => p.next hD mono s hy (Nat.lt_of_lt_of_le (List.getElem?_eq_some_iff.mp hx).1 hn)
  · obtain ⟨s1, ys, h1, h2, h3⟩ := p
    exact hd H ys s1 h1 h2 h3
theorem lcm_range {lo : Int} {n : Nat} (Y : Nat → V → Hp → Prop) (hD : H1 D = none) (hn : n ≤ sizeLine) (mono : ∀ i y H H', Y i y H → Rest [D] H H' → Y i y H')
    (hs : ∀ i H (Kt : V → Hp → Prop), i < n → Same H1 H → (∃ acc, H D = some (.lst acc)) → (∀ y H4, Same H H4 → Y i y H4 → Kt y H4) → g (.int (lo + i)) (wipe σ vs) H fun σ2 H2 => wipe σ2 vs = wipe σ vs ∧ te σ2 H2 Kt)
    (hd : ∀ H ys, Same H1 H → H D = some (.lst ys) → ys.length = n → (∀ i y, ys[i]? = some y → Y i y H) → Qd H) :
    ∃ W : Nat → Nat → Hp → Prop, (∃ m, W 0 m (upd H1 D (.lst []))) ∧ ∀ i m H, W i m H →
      ((Itr lo n).stop i H ∧ Qd H) ∨ ((Itr lo n).go i H ∧ ∃ Nx : Hp → Prop, (∀ H', Nx H' → ∃ m', m' < m ∧ W (i + 1) m' H') ∧ ∀ x H', (Itr lo n).yld i H x H' → g x (wipe σ vs) H' fun σ2 H2 => wipe σ2 vs = wipe σ vs ∧ tYes σ2 H2 fun b H3 =>
        if b = true then te σ2 H3 fun y H4 => ∃ acc, H4 D = some (.lst acc) ∧ acc.length < sizeLine ∧ Nx (upd H4 D (.lst (acc ++ [y]))) else Nx H3) := by
  refine lc_range (Sofar H1 D Y) (Sofar.start hD) (fun i H hi p => ?_) fun H p => ?_
  · unfold tYes
    simp only [if_true]
    exact hs i H _ hi p.1 (let ⟨ys, q, _⟩ := p.2; ⟨ys, q⟩) fun y H4 s hy => p.next hD mono s hy (by omega)
  · obtain ⟨s1, ys, h1, h2, h3⟩ := p
    exact hd H ys s1 h1 h2 h3
theorem lcm_zip {a b : Addr} {xs zs : List V} (Y : Nat → V → Hp → Prop) (hD : H1 D = none) (ha : SqL K H1 a xs) (hb : SqL K H1 b zs) (hl : xs.length = zs.length) (hn : xs.length ≤ sizeLine) (mono : ∀ i y H H', Y i y H → Rest [D] H H' → Y i y H')
    (hs : ∀ i x z H T (Kt : V → Hp → Prop), xs[i]? = some x → zs[i]? = some z → Same H1 H → H T = some (.tup [x, z]) → (∃ acc, H D = some (.lst acc)) → (∀ y H4, Same H H4 → Y i y H4 → Kt y H4) → g (.ref T) (wipe σ vs) H fun σ2 H2 => wipe σ2 vs = wipe σ vs ∧ te σ2 H2 Kt)
    (hd : ∀ H ys, Same H1 H → H D = some (.lst ys) → ys.length = xs.length → (∀ i y, ys[i]? = some y → Y i y H) → Qd H) :
    ∃ W : Nat → Nat → Hp → Prop, (∃ m, W 0 m (upd H1 D (.lst []))) ∧ ∀ i m H, W i m H →
      ((Itz K a b).stop i H ∧ Qd H) ∨ ((Itz K a b).go i H ∧ ∃ Nx : Hp → Prop, (∀ H', Nx H' → ∃ m', m' < m ∧ W (i + 1) m' H') ∧ ∀ x H', (Itz K a b).yld i H x H' → g x (wipe σ vs) H' fun σ2 H2 => wipe σ2 vs = wipe σ vs ∧ tYes σ2 H2 fun b H3 =>
        if b = true then te σ2 H3 fun y H4 => ∃ acc, H4 D = some (.lst acc) ∧ acc.length < sizeLine ∧ Nx (upd H4 D (.lst (acc ++ [y]))) else Nx H3) := by
  refine ⟨fun i m H => m = xs.length - i ∧ i ≤ xs.length ∧ Sofar H1 D Y i H, ⟨xs.length, by simp, Nat.zero_le _, Sofar.start hD⟩, ?_⟩
  rintro i m H ⟨rfl, hi, p⟩
  have qa := p.1.seq ha
  have qb := p.1.seq hb
  by_cases hlt : i < xs.length
  · refine .inr ⟨⟨xs, zs, xs[i], zs[i]'(by omega), qa, qb, List.getElem?_eq_getElem hlt, List.getElem?_eq_getElem (by omega)⟩, Sofar H1 D Y (i + 1), fun H' p' => ⟨xs.length - (i + 1), by omega, rfl, hlt, p'⟩, fun x H' y => ?_⟩
    obtain ⟨T, u, v, rfl, hT, rfl, hu, hv⟩ := y
    unfold tYes
    simp only [if_true]
    have sT : Same H (upd H T (.tup [u, v])) := Same.put_new hT
    refine hs i u v (upd H T (.tup [u, v])) T _ (hu xs qa) (hv zs qb) (p.1.trans sT) upd_same (let ⟨ys, q, _⟩ := p.2; ⟨ys, sT _ _ q⟩) fun y H4 s hy => p.next hD mono (sT.trans s) hy (Nat.lt_of_lt_of_le hlt hn)
  · have e : i = xs.length := by omega
    subst e
    refine .inl ⟨⟨xs, zs, qa, qb, .inl (Nat.le_refl _)⟩, ?_⟩
    obtain ⟨s1, ys, h1, h2, h3⟩ := p
    exact hd H ys s1 h1 h2 h3
/-- the items of a list of which each is told by its place -/
theorem items_by {ys : List V} {n : Nat} {f : Nat → V} (hl : ys.length = n) (h : ∀ i y, ys[i]? = some y → y = f i) : ys = (List.range n).map f := by
  apply List.ext_getElem?
  intro i
  by_cases hi : i < n
  · rw [List.getElem?_map, List.getElem?_range hi]
    have hy : ys[i]? = some (ys[i]'(by omega)) := List.getElem?_eq_getElem (by omega)
    rw [hy, h i _ hy]
    rfl
  · rw [List.getElem?_eq_none (by omega), List.getElem?_eq_none (by simp; omega)]
end
/-- for over zip of two lists that the block leaves as they are -/
theorem for_zip {K : PySem.W.Frag} {a b : Addr} {xs zs : List V} {g : TG} {tb : TS} {D : Ends} {σ : L2.St} {H : Hp} (Pv : Nat → L2.St → Hp → Prop) (h0 : Pv 0 σ H) (hlen : xs.length = zs.length)
    (hl : ∀ i σ H, i ≤ xs.length → Pv i σ H → SqL K H a xs ∧ SqL K H b zs)
    (hs : ∀ i x z σ H T, xs[i]? = some x → zs[i]? = some z → Pv i σ H → H T = none → g (.ref T) σ (upd H T (.tup [x, z])) fun σ2 H2 => tb { D with nx := Pv (i + 1), ct := Pv (i + 1), bk := D.nx } σ2 H2) (hd : ∀ σ H, Pv xs.length σ H → D.nx σ H) :
    ∃ W : Nat → Nat → L2.St → Hp → Prop, (∃ m, W 0 m σ H) ∧ ∀ i m σ H, W i m σ H →
      ((Itz K a b).stop i H ∧ D.nx σ H) ∨ ((Itz K a b).go i H ∧ ∃ N : L2.St → Hp → Prop, (∀ σ' H', N σ' H' → ∃ m', m' < m ∧ W (i + 1) m' σ' H') ∧ ∀ x H', (Itz K a b).yld i H x H' → g x σ H' fun σ2 H2 => tb { D with nx := N, ct := N, bk := D.nx } σ2 H2) := by
  refine ⟨fun i m σ H => m = xs.length - i ∧ i ≤ xs.length ∧ Pv i σ H, ⟨xs.length, by simp, Nat.zero_le _, h0⟩, ?_⟩
  rintro i m σ H ⟨rfl, hi, p⟩
  obtain ⟨qa, qb⟩ := hl i σ H hi p
  by_cases hlt : i < xs.length
  · refine .inr ⟨⟨xs, zs, xs[i], zs[i]'(by omega), qa, qb, List.getElem?_eq_getElem hlt, List.getElem?_eq_getElem (by omega)⟩, Pv (i + 1), fun σ' H' p' => ⟨xs.length - (i + 1), by omega, rfl, hlt, p'⟩, fun x H' y => ?_⟩
    obtain ⟨T, u, v, rfl, hT, rfl, hu, hv⟩ := y
    exact hs i u v σ H T (hu xs qa) (hv zs qb) p hT
  · have e : i = xs.length := by omega
    subst e
    exact .inl ⟨⟨xs, zs, qa, qb, .inl (Nat.le_refl _)⟩, hd σ H p⟩
end L3


end
section
set_option Elab.async false
set_option linter.all false
set_option maxRecDepth 100000
set_option maxHeartbeats 2000000
namespace L3
open PySem PySem.Spec PyProof.Rows L2
section
variable {P : Program} {w : World} {K : PySem.W.Frag} {mg : Str → Option Value} {base : Heap}
/-- the text's def x keeps the promise sp, k calls deep -/
def Can (P : Program) (w : World) (K : PySem.W.Frag) (mg : Str → Option Value) (base : Heap) (k : Nat) (x : Str) (ps : List Str) (sp : Sp) : Prop :=
  ∃ f fd, FnOk P w K mg base CX0 k f fd ps sp ∧ mg x = some (.ref f) ∧ PySem.W.keepIn K (.ref f) = true ∧ Binds K fd ps []
/-- the class C, called x: its __init__ keeps sp -/
def Makes (P : Program) (w : World) (K : PySem.W.Frag) (mg : Str → Option Value) (base : Heap) (k : Nat) (x : Str) (C : Addr) (ps : List Str) (sp : Sp) : Prop :=
  ∃ f fd, FnOk P w K mg base CX0 k f fd ps sp ∧ mg x = some (.ref C) ∧ Mk K C f ∧ Binds K fd ps []
/-- the method m of C keeps sp -/
def Does (P : Program) (w : World) (K : PySem.W.Frag) (mg : Str → Option Value) (base : Heap) (k : Nat) (C : Addr) (m : Str) (ps : List Str) (sp : Sp) : Prop :=
  ∃ f fd, FnOk P w K mg base CX0 k f fd ps sp ∧ Meth K C m f ∧ Binds K fd ps []
end
section
variable {X : Cx} {k : Nat} {C : Addr} {ps : List Str} {sp : Sp} {x m : Str} {p pos apos : Pos} {o e : Expr} {es : List Expr} {ta : TE} {t : TA}
theorem pcan (c : Can X.prog X.w X.K X.mg X.base k x ps sp) (hr : Room k X.A) (ha : PA X (e :: es) t) (hg : Gl X x := by rfl) (hs : plainEs (e :: es) = true := by rfl) (hdb : (x == ("__debug__" : Str)) = false := by decide) :
    PE X (.Call (.Name x p) (e :: es) [] pos) (tCall sp [] E0 t) :=
  let ⟨_, _, F, hm, hk, hb⟩ := c
  pcall F hr hm hk hb ha hg hs hdb
theorem pmake (c : Makes X.prog X.w X.K X.mg X.base k x C ps sp) (hr : Room (k + 1) X.A) (ha : PA X (e :: es) t) (hg : Gl X x := by rfl) (hs : plainEs (e :: es) = true := by rfl) (hdb : (x == ("__debug__" : Str)) = false := by decide) :
    PE X (.Call (.Name x p) (e :: es) [] pos) (tMake C sp [] E0 t) :=
  let ⟨_, _, F, hm, M, hb⟩ := c
  pe_make M F hr hg hm hb .nil pass0 ha hdb (star_cons (Bool.and_eq_true_iff.mp hs).1) (star_none (Bool.and_eq_true_iff.mp hs).2)
theorem pmeth {pl : Sem Bool} (ho : PE X o ta) (cl : Cls X.K C) (c : Does X.prog X.w X.K X.mg X.base k C m ps sp) (hr : Room k X.A) (ha : PA X (e :: es) t) (hs : plainEs (e :: es) = true := by rfl)
    (ht : eval (.Call (.Attribute o m apos) (e :: es) [] pos) X.env = (do
      let ov ← eval o X.env
      standAt apos.atName
      let (f, first) ← holding [ov] (getMethod ov m pl)
      callWith pos f first (backTo pos (starEach (e :: es) X.env)) (backToKw pos (keywordEach [] X.env))) := by rfl) :
    PE X (.Call (.Attribute o m apos) (e :: es) [] pos) (tMeth C m sp [] E0 ta t) :=
  let ⟨_, _, F, hm, hb⟩ := c
  pe_meth ho cl hm F hr hb .nil pass0 ha (star_cons (Bool.and_eq_true_iff.mp hs).1) (star_none (Bool.and_eq_true_iff.mp hs).2) ht
/-- name = [..] of a local -/
theorem lcset {i : Nat} {y : Str} {py : Pos} {elt tg iter : Expr} {scope : Scope} {own : List (Str × Nat)} {pos spos : Pos} {wi : TI} {g : TG} {te : TE} (hc : X.calm = true) (hN : X.N.Nodup) (hy : X.N[i]? = some y) (hk : X.env.scope.kind = .function) (hyl : X.env.scope.names.lookup y = some .local)
    (hl : (py.line == pos.line) = true) (hn : (scope.names.any fun (n, k) => n == y && (k == .local || k == .cell)) = false) (hi : PI X tg iter wi) (ok : BlkOk X.N X.env.scope scope own)
    (hg : ∀ (s : Shared) (H : Hp) (C : Addr) (cl : List (Str × Addr)) (fp : List Addr), PG (X.blk s H scope (compEnvC scope cl C X.env) fp) tg g)
    (he : ∀ (s : Shared) (H : Hp) (C : Addr) (cl : List (Str × Addr)) (fp : List Addr), PE (X.blk s H scope (compEnvC scope cl C X.env) fp) elt te) (hs : ∀ x, foldedSetIterable iter X.env x = pure x := by intro _; rfl) :
    PS X (.Assign [.Name y py] (.ListComp elt [⟨tg, iter, [], 0⟩] scope pos) spos) (tAsg (tLc wi g tYes te (own.map (·.2))) (gName i)) :=
  ps_setLc hc hN hy hyl (sw_true hk hyl hl hn) hi ok hg (fun _ _ _ _ _ => pts_nil) he hs
theorem lcval {elt tg iter : Expr} {scope : Scope} {own : List (Str × Nat)} {pos : Pos} {wi : TI} {g : TG} {te : TE} (hc : X.calm = true) (hN : X.N.Nodup) (hi : PI X tg iter wi) (ok : BlkOk X.N X.env.scope scope own)
    (hg : ∀ (s : Shared) (H : Hp) (C : Addr) (cl : List (Str × Addr)) (fp : List Addr), PG (X.blk s H scope (compEnvC scope cl C X.env) fp) tg g)
    (he : ∀ (s : Shared) (H : Hp) (C : Addr) (cl : List (Str × Addr)) (fp : List Addr), PE (X.blk s H scope (compEnvC scope cl C X.env) fp) elt te) (hs : ∀ x, foldedSetIterable iter X.env x = pure x := by intro _; rfl) :
    PE X (.ListComp elt [⟨tg, iter, [], 0⟩] scope pos) (tLc wi g tYes te (own.map (·.2))) :=
  pe_lc hc hN hi ok hg (fun _ _ _ _ _ => pts_nil) he hs
theorem pizip {a b : Expr} {elts : List Expr} {kk : Nat} {tpos : Pos} {ta : TA} (hm : X.mg "zip" = none) (ha : PA X [a, b] ta) (hg : Gl X "zip" := by rfl) (hs : plainEs [a, b] = true := by rfl) : PI X (.Tuple elts kk tpos) (.Call (.Name "zip" p) [a, b] [] pos) (iZip X.K ta) :=
  pi_zip hg hm ha (star_cons (Bool.and_eq_true_iff.mp hs).1) (star_none (Bool.and_eq_true_iff.mp hs).2)
/-- a number of the text's top -/
def Num (mg : Str → Option Value) (x : Str) (n : Int) : Prop := ∃ t, mg x = some (.int n t)
theorem pnum {n : Int} (h : Num X.mg x n) (hg : Gl X x := by rfl) (hd : (x == ("__debug__" : Str)) = false := by decide) : PE X (.Name x pos) (tC (.int n)) :=
  let ⟨_, q⟩ := h
  pe_glob hg q ⟨_, rfl⟩ hd
/-! the same rules, the module's objects named by a letter of one's own (within a comprehension's block) -/
variable {K : PySem.W.Frag} {a b : Expr} {tb : TE} {f : Str}
theorem ixL (ha : PE X a ta) (hb : PE X b tb) (hs : PlainIx b := by exact fun _ _ => rfl) (hK : X.K = K := by rfl) : PE X (.Subscript a b pos) (tOp (rIxL K) ta tb) := hK ▸ pe_ix ix_list ha hb hs
theorem ixT (ha : PE X a ta) (hb : PE X b tb) (hs : PlainIx b := by exact fun _ _ => rfl) (hK : X.K = K := by rfl) : PE X (.Subscript a b pos) (tOp (rIxT K) ta tb) := hK ▸ pe_ix ix_tup ha hb hs
theorem fldK (he : PE X e ta) (hb : attributeBase e f X.env (eval e X.env) = eval e X.env := by rfl) (hK : X.K = K := by rfl) : PE X (.Attribute e f pos) (tFld K ta f) := hK ▸ pe_fld he hb
theorem slL {lo hi : Option Expr} {tl th : TO} {p2 : Pos} (he : PE X e ta) (hl : PO X lo tl) (hu : PO X hi th) (hK : X.K = K := by rfl) : PE X (.Subscript e (.Slice lo hi none p2) pos) (tSl (rSlL K) ta tl th) := hK ▸ pe_slice sl_list he hl hu
theorem tgt2 {e1 e2 : Expr} {kk : Nat} {g1 g2 : TG} (hc : X.calm = true) (h1 : PG X e1 g1) (h2 : PG X e2 g2) (hn : (assignEach [e1, e2] X.env).length = 2 := by rfl) (hst : (assignEach [e1, e2] X.env).findIdx? (·.1) = none := by rfl)
    (hs1 : (assignEach [e1, e2] X.env).map (·.2) = assign e1 X.env :: (assignEach [e2] X.env).map (·.2) := by rfl) (hs2 : (assignEach [e2] X.env).map (·.2) = assign e2 X.env :: (assignEach [] X.env).map (·.2) := by rfl) (hK : X.K = K := by rfl) :
    PG X (.Tuple [e1, e2] kk pos) (gTup K 2 (gCons g1 (gCons g2 gNil))) := hK ▸ pg_tup hc (pgs_cons h1 (pgs_cons h2 pgs_nil hs2) hs1) hn hst
end
end L3


end
section
set_option Elab.async false
set_option linter.all false
set_option maxRecDepth 100000
set_option maxHeartbeats 2000000
namespace L3
open PySem PySem.Spec PyProof.Rows L2
section
variable {X : Cx}
end
section
variable {K : PySem.W.Frag} {g : TG} {te : TE} {vs : List Nat} {σ : L2.St} {H1 : Hp} {D : Addr} {Qd : Hp → Prop}
/-- a comprehension over range(lo, .., c) that changes nothing that stands -/
theorem lcm_rangeC {lo c : Int} {n : Nat} (Y : Nat → V → Hp → Prop) (hD : H1 D = none) (hn : n ≤ sizeLine) (mono : ∀ i y H H', Y i y H → Rest [D] H H' → Y i y H')
    (hs : ∀ i H (Kt : V → Hp → Prop), i < n → Same H1 H → (∃ acc, H D = some (.lst acc)) → (∀ y H4, Same H H4 → Y i y H4 → Kt y H4) → g (.int (lo + (i : Nat) * c)) (wipe σ vs) H fun σ2 H2 => wipe σ2 vs = wipe σ vs ∧ te σ2 H2 Kt)
    (hd : ∀ H ys, Same H1 H → H D = some (.lst ys) → ys.length = n → (∀ i y, ys[i]? = some y → Y i y H) → Qd H) :
    ∃ W : Nat → Nat → Hp → Prop, (∃ m, W 0 m (upd H1 D (.lst []))) ∧ ∀ i m H, W i m H →
      ((Itc lo c n).stop i H ∧ Qd H) ∨ ((Itc lo c n).go i H ∧ ∃ Nx : Hp → Prop, (∀ H', Nx H' → ∃ m', m' < m ∧ W (i + 1) m' H') ∧ ∀ x H', (Itc lo c n).yld i H x H' → g x (wipe σ vs) H' fun σ2 H2 => wipe σ2 vs = wipe σ vs ∧ tYes σ2 H2 fun b H3 =>
        if b = true then te σ2 H3 fun y H4 => ∃ acc, H4 D = some (.lst acc) ∧ acc.length < sizeLine ∧ Nx (upd H4 D (.lst (acc ++ [y]))) else Nx H3) := by
  refine ⟨fun i m H => m = n - i ∧ i ≤ n ∧ Sofar H1 D Y i H, ⟨n, by simp, Nat.zero_le _, Sofar.start hD⟩, ?_⟩
  rintro i m H ⟨rfl, hi, p⟩
  by_cases hlt : i < n
  · refine .inr ⟨hlt, Sofar H1 D Y (i + 1), fun H' p' => ⟨n - (i + 1), by omega, rfl, hlt, p'⟩, fun x H' y => ?_⟩
    obtain ⟨e, y⟩ := y
    subst e y
    unfold tYes
    simp only [if_true]
    exact hs i _ _ hlt p.1 (let ⟨ys, q, _⟩ := p.2; ⟨ys, q⟩) fun y H4 s hy => p.next hD mono s hy (by omega)
  · have e : i = n := by omega
    subst e
    obtain ⟨s1, ys, h1, h2, h3⟩ := p
    exact .inl ⟨Nat.le_refl _, hd H ys s1 h1 h2 h3⟩
end
end L3


end
section
namespace Mx
open Sd21
/-- between -B and B -/
def Bd (B x : Int) : Prop := -B ≤ x ∧ x ≤ B
theorem Bd.nn {B x : Int} (h : Bd B x) : 0 ≤ B := by
  have h1 := h.1
  have h2 := h.2
  omega
theorem Bd.mono {B C x : Int} (h : Bd B x) (c : B ≤ C) : Bd C x := by
  have h1 := h.1
  have h2 := h.2
  exact ⟨by omega, by omega⟩
theorem Bd.add {A B x y : Int} (h : Bd A x) (k : Bd B y) : Bd (A + B) (x + y) := by
  have h1 := h.1; have h2 := h.2; have k1 := k.1; have k2 := k.2
  exact ⟨by omega, by omega⟩
theorem Bd.sub {A B x y : Int} (h : Bd A x) (k : Bd B y) : Bd (A + B) (x - y) := by
  have h1 := h.1; have h2 := h.2; have k1 := k.1; have k2 := k.2
  exact ⟨by omega, by omega⟩
theorem Bd.mul {A B x y : Int} (h : Bd A x) (k : Bd B y) : Bd (A * B) (x * y) := by
  have hA := h.nn
  have hB := k.nn
  have h1 := h.1; have h2 := h.2; have k1 := k.1; have k2 := k.2
  have p1 := Int.mul_nonneg (show 0 ≤ A - x by omega) (show 0 ≤ B - y by omega)
  have p2 := Int.mul_nonneg (show 0 ≤ A + x by omega) (show 0 ≤ B + y by omega)
  have p3 := Int.mul_nonneg (show 0 ≤ A - x by omega) (show 0 ≤ B + y by omega)
  have p4 := Int.mul_nonneg (show 0 ≤ A + x by omega) (show 0 ≤ B - y by omega)
  have e1 : (A - x) * (B - y) = A * B - A * y - x * B + x * y := by grind
  have e2 : (A + x) * (B + y) = A * B + A * y + x * B + x * y := by grind
  have e3 : (A - x) * (B + y) = A * B + A * y - x * B - x * y := by grind
  have e4 : (A + x) * (B - y) = A * B - A * y + x * B - x * y := by grind
  rw [e1] at p1
  rw [e2] at p2
  rw [e3] at p3
  rw [e4] at p4
  exact ⟨by omega, by omega⟩
theorem Bd.div {A x d : Int} (h : Bd A x) (hd : 0 < d) : Bd A (x / d) := by
  have hA := h.nn
  have h1 := h.1; have h2 := h.2
  refine ⟨?_, ?_⟩
  · refine (Int.le_ediv_iff_mul_le hd).mpr ?_
    have : A * 1 ≤ A * d := Int.mul_le_mul_of_nonneg_left (by omega) hA
    have e : -A * d = -(A * d) := by grind
    rw [e]
    omega
  · have p := Int.ediv_mul_le x (show d ≠ 0 by omega)
    by_cases hx : x / d ≤ 0
    · omega
    · have : x / d * 1 ≤ x / d * d := Int.mul_le_mul_of_nonneg_left (by omega) (by omega)
      omega
theorem Bd.lit {A : Int} (x : Int) (h1 : -A ≤ x := by decide) (h2 : x ≤ A := by decide) : Bd A x := ⟨h1, h2⟩
theorem shr_eq (z : Int) (k : Nat) : shr z k = z / 2 ^ k := rfl
/-! ## small numbers -/
theorem small_iff {b : Nat} {z : Int} : small b z = true ↔ -2 ^ b < z ∧ z < 2 ^ b := by
  unfold small
  rw [Bool.and_eq_true, decide_eq_true_eq, decide_eq_true_eq]
theorem small24 {z : Int} (h : small 24 z = true) : Bd 16777215 z := by
  have := small_iff.mp h
  exact ⟨by omega, by omega⟩
structure GoodC (c : Corner) : Prop where
  x : Bd 16777215 c.x
  y : Bd 16777215 c.y
  z : Bd 16777215 c.z
  w : Bd 16777215 c.w
  r : 0 ≤ c.r ∧ c.r ≤ 65535
  g : 0 ≤ c.g ∧ c.g ≤ 65535
  b : 0 ≤ c.b ∧ c.b ≤ 65535
  a : 0 ≤ c.a ∧ c.a ≤ 65535
  u : Bd 16777215 c.u
  v : Bd 16777215 c.v
theorem goodC {c : Corner} (h : goodCorner c = true) : GoodC c := by
  unfold goodCorner at h
  simp only [Bool.and_eq_true, List.all_cons, List.all_nil, decide_eq_true_eq, Bool.and_true] at h
  obtain ⟨h1, h2, h3, h4, ⟨h5, h6, h7, h8⟩, h9, h10⟩ := h
  exact ⟨small24 h1, small24 h2, small24 h3, small24 h4, h5, h6, h7, h8, small24 h9, small24 h10⟩
/-- a corner that is moved, or cut: its numbers' sizes -/
structure MidC (c : Corner) : Prop where
  x : Bd 68719476736 c.x
  y : Bd 68719476736 c.y
  z : Bd 68719476736 c.z
  w : Bd 68719476736 c.w
  r : 0 ≤ c.r ∧ c.r ≤ 65535
  g : 0 ≤ c.g ∧ c.g ≤ 65535
  b : 0 ≤ c.b ∧ c.b ≤ 65535
  a : 0 ≤ c.a ∧ c.a ≤ 65535
  u : Bd 16777215 c.u
  v : Bd 16777215 c.v
theorem row_bd {p q r s x y z w : Int} (hp : Bd 16777215 p) (hq : Bd 16777215 q) (hr : Bd 16777215 r) (hs : Bd 16777215 s) (hx : Bd 16777215 x) (hy : Bd 16777215 y) (hz : Bd 16777215 z) (hw : Bd 16777215 w) :
    Bd 68719476736 (shr (p * x + q * y + r * z + s * w) 16) := by
  have h := (((hp.mul hx).add (hq.mul hy)).add (hr.mul hz)).add (hs.mul hw)
  have h1 := h.1
  have h2 := h.2
  rw [shr_eq]
  generalize p * x + q * y + r * z + s * w = t at h1 h2 ⊢
  exact ⟨by omega, by omega⟩
theorem getD_bd {m : List Int} (h : ∀ z ∈ m, Bd 16777215 z) (i : Nat) : Bd 16777215 (m.getD i 0) := by
  rw [List.getD_eq_getElem?_getD]
  cases e : m[i]? with
  | none => exact .lit 0
  | some z => exact h z (List.mem_of_getElem? e)
theorem moved_mid {m : List Int} {c : Corner} (hm : ∀ z ∈ m, Bd 16777215 z) (h : GoodC c) : MidC (moved m c) where
  x := row_bd (getD_bd hm _) (getD_bd hm _) (getD_bd hm _) (getD_bd hm _) h.x h.y h.z h.w
  y := row_bd (getD_bd hm _) (getD_bd hm _) (getD_bd hm _) (getD_bd hm _) h.x h.y h.z h.w
  z := row_bd (getD_bd hm _) (getD_bd hm _) (getD_bd hm _) (getD_bd hm _) h.x h.y h.z h.w
  w := row_bd (getD_bd hm _) (getD_bd hm _) (getD_bd hm _) (getD_bd hm _) h.x h.y h.z h.w
  r := h.r
  g := h.g
  b := h.b
  a := h.a
  u := h.u
  v := h.v
/-- the part of the edge -/
theorem part_bd {p q : Int} (hp : 4096 ≤ p) (hq : q < 4096) : 0 ≤ (p - 4096) * 65536 / (p - q) ∧ (p - 4096) * 65536 / (p - q) ≤ 65536 := by
  have hd : 0 < p - q := by omega
  refine ⟨Int.ediv_nonneg (by omega) (by omega), ?_⟩
  have : (p - 4096) * 65536 / (p - q) < 65537 := by
    refine (Int.ediv_lt_iff_lt_mul hd).mpr ?_
    omega
  omega
/-- a + ((b - a) * t >> 16) lies between a and b -/
theorem on_bd {lo hi a b t : Int} (ha : lo ≤ a ∧ a ≤ hi) (hb : lo ≤ b ∧ b ≤ hi) (ht : 0 ≤ t ∧ t ≤ 65536) : lo ≤ a + shr ((b - a) * t) 16 ∧ a + shr ((b - a) * t) 16 ≤ hi := by
  rw [shr_eq]
  obtain ⟨a1, a2⟩ := ha
  obtain ⟨b1, b2⟩ := hb
  obtain ⟨t1, t2⟩ := ht
  by_cases h : 0 ≤ b - a
  · have p1 := Int.mul_nonneg h t1
    have p2 := Int.mul_le_mul_of_nonneg_left t2 h
    generalize (b - a) * t = s at p1 p2 ⊢
    exact ⟨by omega, by omega⟩
  · have h' : 0 ≤ a - b := by omega
    have p1 := Int.mul_nonneg h' t1
    have p2 := Int.mul_le_mul_of_nonneg_left t2 h'
    have e : (b - a) * t = -((a - b) * t) := by grind
    rw [e]
    generalize (a - b) * t = s at p1 p2 ⊢
    exact ⟨by omega, by omega⟩
theorem on_Bd {B a b t : Int} (ha : Bd B a) (hb : Bd B b) (ht : 0 ≤ t ∧ t ≤ 65536) : Bd B (a + shr ((b - a) * t) 16) := on_bd ha hb ht
theorem meets_mid {p q : Corner} (hp : MidC p) (hq : MidC q) (h1 : 4096 ≤ p.w) (h2 : q.w < 4096) : MidC (meets p q) := by
  have ht := part_bd h1 h2
  exact ⟨on_Bd hp.x hq.x ht, on_Bd hp.y hq.y ht, on_Bd hp.z hq.z ht, .lit 4096, on_bd hp.r hq.r ht, on_bd hp.g hq.g ht, on_bd hp.b hq.b ht, on_bd hp.a hq.a ht, on_Bd hp.u hq.u ht, on_Bd hp.v hq.v ht⟩
/-- a corner in front -/
structure FrontC (c : Corner) : Prop extends MidC c where
  front : 4096 ≤ c.w
theorem cut_front {l : List Corner} (h : ∀ c ∈ l, MidC c) : ∀ c ∈ cut l, FrontC c := by
  intro c hc
  unfold cut at hc
  obtain ⟨e, he, hc⟩ := List.mem_flatMap.mp hc
  have h1 : MidC e.1 := h _ (List.of_mem_zip he).1
  have h2 : MidC e.2 := by
    have := (List.of_mem_zip he).2
    rcases List.mem_append.mp this with m | m
    · exact h _ (List.mem_of_mem_drop m)
    · exact h _ (List.mem_of_mem_take m)
  unfold NEAR at hc
  split at hc
  · rename_i a
    split at hc
    · rcases List.mem_singleton.mp hc with rfl
      exact ⟨h1, a⟩
    · rename_i b
      rcases List.mem_cons.mp hc with e1 | m
      · subst e1
        exact ⟨h1, a⟩
      · rcases List.mem_singleton.mp m with rfl
        exact ⟨meets_mid h1 h2 a (by omega), Int.le_refl _⟩
  · rename_i a
    split at hc
    · rename_i b
      rcases List.mem_singleton.mp hc with rfl
      exact ⟨meets_mid h2 h1 b (by omega), Int.le_refl _⟩
    · cases hc
/-- a spot's sizes -/
structure GoodS (s : Spot) : Prop where
  x : Bd 32768 s.x
  y : Bd 32768 s.y
  z : 0 ≤ s.z ∧ s.z ≤ 16777215
  q : 1 ≤ s.q ∧ s.q ≤ 65536
  c : FrontC s.c
theorem spot_good {w h : Nat} {c : Corner} {s : Spot} (hc : FrontC c) (e : spot w h c = some s) : GoodS s := by
  unfold spot SPAN at e
  dsimp only at e
  split at e
  · cases e
  · rename_i n
    cases e
    refine ⟨⟨?_, ?_⟩, ⟨?_, ?_⟩, ⟨?_, ?_⟩, ⟨?_, ?_⟩, hc⟩
    · dsimp only
      omega
    · dsimp only
      omega
    · dsimp only
      omega
    · dsimp only
      omega
    · dsimp only
      omega
    · dsimp only
      omega
    · dsimp only
      omega
    · dsimp only
      have hw := hc.front
      have : (2 ^ 28 : Int) / c.w < 65537 := (Int.ediv_lt_iff_lt_mul (by omega)).mpr (by omega)
      omega
theorem w_sum (a b c : Spot) (px py : Int) : weight b c px py + weight c a px py + weight a b px py = twice a b c := by
  unfold weight twice
  grind
theorem twice_swap (a b c : Spot) : twice a c b = -twice a b c := by
  unfold twice
  grind
end Mx


end
section
namespace Mx
open Sd21
/-! ## weights -/
structure InW (a b c : Spot) (i j : Nat) (w : Int × Int × Int) : Prop where
  ea : w.1 = weight b c (16 * (i : Int) + 8) (16 * (j : Int) + 8)
  eb : w.2.1 = weight c a (16 * (i : Int) + 8) (16 * (j : Int) + 8)
  ec : w.2.2 = weight a b (16 * (i : Int) + 8) (16 * (j : Int) + 8)
  na : 0 ≤ w.1
  nb : 0 ≤ w.2.1
  nc : 0 ≤ w.2.2
  sum : w.1 + w.2.1 + w.2.2 = twice a b c
theorem ok_nn {e : Int} {o : Bool} (h : (decide (0 < e) || (e == 0 && o)) = true) : 0 ≤ e := by
  rw [Bool.or_eq_true, decide_eq_true_eq, Bool.and_eq_true, beq_iff_eq] at h
  omega
theorem weights_in {a b c : Spot} {i j : Nat} {w : Int × Int × Int} (h : weights a b c i j = some w) : InW a b c i j w := by
  unfold weights at h
  dsimp only at h
  split at h
  · rename_i k
    rw [Bool.and_eq_true, Bool.and_eq_true] at k
    cases h
    exact ⟨rfl, rfl, rfl, ok_nn k.2.1, ok_nn k.2.2, ok_nn k.1, w_sum a b c _ _⟩
  · cases h
theorem twice_bd {a b c : Spot} (ha : GoodS a) (hb : GoodS b) (hc : GoodS c) : Bd 8589934592 (twice a b c) := by
  have h := ((hb.x.sub ha.x).mul (hc.y.sub ha.y)).sub ((hb.y.sub ha.y).mul (hc.x.sub ha.x))
  exact h.mono (by decide)
/-! ## a mean lies between -/
theorem mean_bd {lo hi p q s x y z : Int} (hp : 0 ≤ p) (hq : 0 ≤ q) (hs : 0 ≤ s) (hn : 0 < p + q + s) (hx : lo ≤ x ∧ x ≤ hi) (hy : lo ≤ y ∧ y ≤ hi) (hz : lo ≤ z ∧ z ≤ hi) :
    lo ≤ (p * x + q * y + s * z) / (p + q + s) ∧ (p * x + q * y + s * z) / (p + q + s) ≤ hi := by
  refine ⟨(Int.le_ediv_iff_mul_le hn).mpr ?_, ?_⟩
  · have a1 := Int.mul_le_mul_of_nonneg_left hx.1 hp
    have a2 := Int.mul_le_mul_of_nonneg_left hy.1 hq
    have a3 := Int.mul_le_mul_of_nonneg_left hz.1 hs
    have e : lo * (p + q + s) = p * lo + q * lo + s * lo := by grind
    omega
  · have a1 := Int.mul_le_mul_of_nonneg_left hx.2 hp
    have a2 := Int.mul_le_mul_of_nonneg_left hy.2 hq
    have a3 := Int.mul_le_mul_of_nonneg_left hz.2 hs
    have e : (hi + 1) * (p + q + s) = p * hi + q * hi + s * hi + (p + q + s) := by grind
    have : (p * x + q * y + s * z) / (p + q + s) < hi + 1 := (Int.ediv_lt_iff_lt_mul hn).mpr (by omega)
    omega
theorem eight_of {z : Int} (h : 0 ≤ z ∧ z ≤ 65535) : max 0 (min 255 (shr z 8)) = z / 256 ∧ 0 ≤ z / 256 ∧ z / 256 ≤ 255 := by
  rw [shr_eq]
  have e : (2 : Int) ^ 8 = 256 := by decide
  rw [e]
  omega
/-! ## pixels -/
theorem part_le (p k : Nat) : part p k ≤ 255 := by
  unfold part
  omega
theorem times_le {a b : Nat} (ha : a ≤ 255) (hb : b ≤ 255) : times a b ≤ 255 := by
  unfold times
  have : a * b ≤ 255 * 255 := Nat.mul_le_mul ha hb
  have e : 2 * a * b = 2 * (a * b) := by rw [Nat.mul_assoc]
  omega
theorem pack_lt {r g b a : Nat} (hr : r ≤ 255) (hg : g ≤ 255) (hb : b ≤ 255) (ha : a ≤ 255) : pack r g b a < 4294967296 := by
  unfold pack
  omega
/-! ## folds that pass most numbers by -/
theorem foldl_id {α β : Type} (f : β → α → β) : ∀ (l : List α) (b : β), (∀ x ∈ l, ∀ b, f b x = b) → l.foldl f b = b
  | [], _, _ => rfl
  | x :: r, b, h => by
    rw [List.foldl_cons, h x (List.mem_cons_self ..) b]
    exact foldl_id f r b fun y hy => h y (List.mem_cons_of_mem _ hy)
theorem range_split (lo n : Nat) (h : lo ≤ n) : List.range n = List.range lo ++ (List.range (n - lo)).map (lo + ·) := by
  have e : n = lo + (n - lo) := by omega
  conv => lhs; rw [e, List.range_add]
/-- a fold over 0 to n that changes nothing outside lo to hi -/
theorem foldl_window {β : Type} (f : β → Nat → β) (n lo hi : Nat) (h1 : lo ≤ hi) (h2 : hi ≤ n) (b : β) (out : ∀ i, i < n → (i < lo ∨ hi ≤ i) → ∀ b, f b i = b) :
    (List.range n).foldl f b = (List.range (hi - lo)).foldl (fun b k => f b (lo + k)) b := by
  rw [range_split lo n (by omega), List.foldl_append, foldl_id f (List.range lo) b fun x hx => out x (by have := List.mem_range.mp hx; omega) (.inl (List.mem_range.mp hx)),
    range_split (hi - lo) (n - lo) (by omega), List.map_append, List.foldl_append]
  rw [show (List.range (hi - lo)).foldl (fun b k => f b (lo + k)) b = ((List.range (hi - lo)).map (lo + ·)).foldl f b from (List.foldl_map ..).symm]
  refine foldl_id f _ _ fun x hx => ?_
  obtain ⟨y, hy, rfl⟩ := List.mem_map.mp hx
  obtain ⟨z, hz, rfl⟩ := List.mem_map.mp hy
  have := List.mem_range.mp hz
  exact out _ (by omega) (.inr (by omega))
theorem foldl_none {β : Type} (f : β → Nat → β) (n : Nat) (b : β) (out : ∀ i, i < n → ∀ b, f b i = b) : (List.range n).foldl f b = b :=
  foldl_id f _ b fun x hx => out x (List.mem_range.mp hx)
/-! ## lists of naturals as lists of whole numbers -/
theorem ints_len (l : List Nat) : (Sd21Neutral.ints l).length = l.length := List.length_map ..
theorem ints_get {l : List Nat} {k : Nat} (h : k < l.length) : (Sd21Neutral.ints l)[k]? = some ((l.getD k 0 : Nat) : Int) := by
  unfold Sd21Neutral.ints
  rw [List.getElem?_map, List.getElem?_eq_getElem h, List.getD_eq_getElem?_getD, List.getElem?_eq_getElem h]
  rfl
theorem ints_set (l : List Nat) (k x : Nat) : (Sd21Neutral.ints l).set k (x : Int) = Sd21Neutral.ints (l.set k x) := by
  unfold Sd21Neutral.ints
  rw [List.map_set]
theorem ints_nats : ∀ {l : List Int}, (∀ z ∈ l, 0 ≤ z) → Sd21Neutral.ints (Sd21Neutral.nats l) = l
  | [], _ => rfl
  | z :: r, h => by
    have ih := ints_nats (l := r) fun y hy => h y (List.mem_cons_of_mem _ hy)
    have hz := h z (List.mem_cons_self ..)
    show ((z.toNat : Nat) : Int) :: Sd21Neutral.ints (Sd21Neutral.nats r) = z :: r
    rw [ih, Int.toNat_of_nonneg hz]
/-! ## the picture keeps its size -/
theorem dot_dims (mode : Mode) (k d c : Nat) (p : Picture) : (dot mode k d c p).width = p.width ∧ (dot mode k d c p).height = p.height ∧ (dot mode k d c p).pix.length = p.pix.length ∧ (dot mode k d c p).depth.length = p.depth.length := by
  unfold dot
  split
  · exact ⟨rfl, rfl, rfl, rfl⟩
  · refine ⟨rfl, rfl, List.length_set .., ?_⟩
    dsimp only
    split
    · exact List.length_set ..
    · rfl
structure Dims (w h : Nat) (p : Picture) : Prop where
  wide : p.width = w
  high : p.height = h
  pix : p.pix.length = w * h
  dep : p.depth.length = w * h
  lim : ∀ z ∈ p.depth, z < 16777216
  col : ∀ z ∈ p.pix, z < 4294967296
end Mx


end
section
namespace Mx
open Sd21
/-! ## weights and nearness -/
structure Shares (p q s : Int) : Prop where
  hp : 0 ≤ p
  hq : 0 ≤ q
  hs : 0 ≤ s
  hn : 0 < p + q + s
theorem shares_w {a b c : Spot} {i j : Nat} {w : Int × Int × Int} (h : InW a b c i j w) (hn : 0 < twice a b c) : Shares w.1 w.2.1 w.2.2 := ⟨h.na, h.nb, h.nc, by rw [h.sum]; exact hn⟩
theorem shares_q {p q s x y z : Int} (h : Shares p q s) (hx : 1 ≤ x) (hy : 1 ≤ y) (hz : 1 ≤ z) : Shares (p * x) (q * y) (s * z) := by
  have h1 := Int.mul_le_mul_of_nonneg_left hx h.hp
  have h2 := Int.mul_le_mul_of_nonneg_left hy h.hq
  have h3 := Int.mul_le_mul_of_nonneg_left hz h.hs
  have := h.hp; have := h.hq; have := h.hs; have := h.hn
  exact ⟨by omega, by omega, by omega, by omega⟩
theorem shares_p {a b c : Spot} {i j : Nat} {w : Int × Int × Int} (h : InW a b c i j w) (hn : 0 < twice a b c) (ha : GoodS a) (hb : GoodS b) (hc : GoodS c) : Shares (w.1 * a.q) (w.2.1 * b.q) (w.2.2 * c.q) :=
  shares_q (shares_w h hn) ha.q.1 hb.q.1 hc.q.1
def mean (p q s x y z : Int) : Int := (p * x + q * y + s * z) / (p + q + s)
theorem Shares.mean {lo hi p q s x y z : Int} (h : Shares p q s) (hx : lo ≤ x ∧ x ≤ hi) (hy : lo ≤ y ∧ y ≤ hi) (hz : lo ≤ z ∧ z ≤ hi) : lo ≤ mean p q s x y z ∧ mean p q s x y z ≤ hi :=
  mean_bd h.hp h.hq h.hs h.hn hx hy hz
/-! ## depth -/
theorem depth_in {a b c : Spot} {i j : Nat} {w : Int × Int × Int} (h : InW a b c i j w) (hn : 0 < twice a b c) (ha : GoodS a) (hb : GoodS b) (hc : GoodS c) :
    0 ≤ mean w.1 w.2.1 w.2.2 a.z b.z c.z ∧ mean w.1 w.2.1 w.2.2 a.z b.z c.z ≤ 16777215 := (shares_w h hn).mean ha.z hb.z hc.z
/-! ## colour -/
def eight (z : Int) : Nat := (max 0 (min 255 (shr z 8))).toNat
theorem eight_le (z : Int) : eight z ≤ 255 := by
  unfold eight
  omega
theorem eight_int {z : Int} (h : 0 ≤ z ∧ z ≤ 65535) : ((eight z : Nat) : Int) = z / 256 := by
  unfold eight
  obtain ⟨e, h1, h2⟩ := eight_of h
  rw [e]
  omega
theorem shade_lt (mode : Mode) (t : List Nat) (a b c : Spot) (w : Int × Int × Int) : shade mode t a b c w < 4294967296 := by
  unfold shade
  dsimp only
  split
  · exact pack_lt (times_le (eight_le _) (part_le ..)) (times_le (eight_le _) (part_le ..)) (times_le (eight_le _) (part_le ..)) (times_le (eight_le _) (part_le ..))
  · exact pack_lt (eight_le _) (eight_le _) (eight_le _) (eight_le _)
theorem over_lt (new old : Nat) : over new old < 4294967296 := by
  unfold over
  dsimp only
  exact pack_lt (by omega) (by omega) (by omega) (by omega)
/-! ## the picture keeps its size -/
theorem mem_set {α : Type} {l : List α} {k : Nat} {x z : α} (h : z ∈ l.set k x) : z ∈ l ∨ z = x := List.mem_or_eq_of_mem_set h
theorem Dims.dot {w h : Nat} {p : Picture} (d : Dims w h p) (mode : Mode) (k : Nat) {z c : Nat} (hz : z < 16777216) (hc : c < 4294967296) : Dims w h (dot mode k z c p) := by
  have e := dot_dims mode k z c p
  refine ⟨e.1.trans d.wide, e.2.1.trans d.high, e.2.2.1.trans d.pix, e.2.2.2.trans d.dep, ?_, ?_⟩
  · intro y hy
    unfold Sd21.dot at hy
    split at hy
    · exact d.lim y hy
    · dsimp only at hy
      split at hy
      · rcases mem_set hy with m | m
        · exact d.lim y m
        · omega
      · exact d.lim y hy
  · intro y hy
    unfold Sd21.dot at hy
    split at hy
    · exact d.col y hy
    · dsimp only at hy
      rcases mem_set hy with m | m
      · exact d.col y m
      · subst m
        split
        · exact over_lt ..
        · exact hc
theorem foldl_keep {α β : Type} {P : β → Prop} (f : β → α → β) : ∀ (l : List α) (b : β), P b → (∀ x ∈ l, ∀ b, P b → P (f b x)) → P (l.foldl f b)
  | [], _, h, _ => h
  | x :: r, b, h, k => by
    rw [List.foldl_cons]
    exact foldl_keep f r _ (k x (List.mem_cons_self ..) b h) fun y hy => k y (List.mem_cons_of_mem _ hy)
/-- one pixel of a triangle -/
def pixelAt (mode : Mode) (t : List Nat) (v : Window) (a b c : Spot) (j i : Nat) (p : Picture) : Picture :=
  if (i : Int) < v.x0 ∨ v.x1 ≤ i ∨ (j : Int) < v.y0 ∨ v.y1 ≤ j then p else match weights a b c i j with
    | none => p
    | some w => dot mode (j * p.width + i) (mean w.1 w.2.1 w.2.2 a.z b.z c.z).toNat (shade mode t a b c w) p
theorem triangle_eq (mode : Mode) (t : List Nat) (v : Window) (a b c : Spot) (p : Picture) : triangle mode t v a b c p =
    (if twice a b c = 0 ∨ (mode.side = 1 ∧ twice a b c < 0) ∨ (mode.side = 2 ∧ 0 < twice a b c) then p else
      let b2 := if twice a b c < 0 then c else b
      let c2 := if twice a b c < 0 then b else c
      (List.range p.height).foldl (fun p j => (List.range p.width).foldl (fun p i => pixelAt mode t v a b2 c2 j i p) p) p) := by
  rfl
theorem Dims.pixelAt {w h : Nat} {p : Picture} (d : Dims w h p) (mode : Mode) (t : List Nat) (v : Window) {a b c : Spot} (ha : GoodS a) (hb : GoodS b) (hc : GoodS c) (hn : 0 < twice a b c) (j i : Nat) : Dims w h (pixelAt mode t v a b c j i p) := by
  unfold Mx.pixelAt
  split
  · exact d
  · split
    · exact d
    · rename_i e
      have k := weights_in e
      have z := depth_in k hn ha hb hc
      exact d.dot mode _ (by omega) (shade_lt ..)
/-- the rows of a triangle, its corners by the clock -/
def rowsOf (mode : Mode) (t : List Nat) (v : Window) (a b c : Spot) (p : Picture) : Picture :=
  (List.range p.height).foldl (fun p j => (List.range p.width).foldl (fun p i => Mx.pixelAt mode t v a b c j i p) p) p
theorem Dims.row {w h : Nat} {p : Picture} (d : Dims w h p) (mode : Mode) (t : List Nat) (v : Window) {a b c : Spot} (ha : GoodS a) (hb : GoodS b) (hc : GoodS c) (hn : 0 < twice a b c) (j : Nat) (l : List Nat) : Dims w h (l.foldl (fun p i => Mx.pixelAt mode t v a b c j i p) p) :=
  foldl_keep (P := Dims w h) _ _ _ d fun i _ q dq => dq.pixelAt mode t v ha hb hc hn j i
theorem Dims.rows {w h : Nat} {p : Picture} (d : Dims w h p) (mode : Mode) (t : List Nat) (v : Window) {a b c : Spot} (ha : GoodS a) (hb : GoodS b) (hc : GoodS c) (hn : 0 < twice a b c) : Dims w h (rowsOf mode t v a b c p) :=
  foldl_keep (P := Dims w h) _ _ _ d fun j _ q dq => dq.row mode t v ha hb hc hn j _
theorem twice_two {a b c : Spot} (h : ¬ twice a b c = 0) : 0 < twice a (if twice a b c < 0 then c else b) (if twice a b c < 0 then b else c) := by
  by_cases k : twice a b c < 0
  · rw [if_pos k, if_pos k, twice_swap]
    omega
  · rw [if_neg k, if_neg k]
    omega
theorem Dims.triangle {w h : Nat} {p : Picture} (d : Dims w h p) (mode : Mode) (t : List Nat) (v : Window) {a b c : Spot} (ha : GoodS a) (hb : GoodS b) (hc : GoodS c) : Dims w h (triangle mode t v a b c p) := by
  rw [triangle_eq]
  split
  · exact d
  · rename_i n
    have n0 : ¬ twice a b c = 0 := fun e => n (.inl e)
    refine d.rows mode t v ha ?_ ?_ (twice_two n0)
    · split
      · exact hc
      · exact hb
    · split
      · exact hb
      · exact hc
/-! ## the spots of a face -/
theorem mapM_some {α β : Type} {f : α → Option β} : ∀ {l : List α} {r : List β}, l.mapM f = some r → ∀ y ∈ r, ∃ x ∈ l, f x = some y
  | [], r, e, y, hy => by
    rw [List.mapM_nil] at e
    cases e
    cases hy
  | x :: l, r, e, y, hy => by
    rw [List.mapM_cons] at e
    cases e1 : f x with
    | none =>
      rw [e1] at e
      cases e
    | some z =>
      rw [e1] at e
      cases e2 : l.mapM f with
      | none =>
        rw [e2] at e
        cases e
      | some s =>
        rw [e2] at e
        cases e
        rcases List.mem_cons.mp hy with q | q
        · subst q
          exact ⟨x, List.mem_cons_self .., e1⟩
        · obtain ⟨x', h1, h2⟩ := mapM_some e2 y q
          exact ⟨x', List.mem_cons_of_mem _ h1, h2⟩
theorem spots_good {w h : Nat} {m : List Int} {l : List Corner} {s : List Spot} (hm : ∀ z ∈ m, Bd 16777215 z) (hl : ∀ c ∈ l, GoodC c) (e : (cut (l.map (moved m))).mapM (spot w h) = some s) : ∀ y ∈ s, GoodS y := by
  intro y hy
  obtain ⟨x, hx, e2⟩ := mapM_some e y hy
  refine spot_good (cut_front (fun c hc => ?_) x hx) e2
  obtain ⟨c', h1, rfl⟩ := List.mem_map.mp hc
  exact moved_mid hm (hl c' h1)
theorem Dims.face {w h : Nat} {p : Picture} (d : Dims w h p) {m : List Int} (mode : Mode) (t : List Nat) (v : Window) {l : List Corner} (hm : ∀ z ∈ m, Bd 16777215 z) (hl : ∀ c ∈ l, GoodC c) : Dims w h (face m mode t v l p) := by
  unfold Sd21.face
  split
  · rename_i a b r e
    have g := spots_good hm hl e
    refine foldl_keep (P := Dims w h) _ _ _ d fun x hx q dq => ?_
    have z := List.of_mem_zip hx
    exact dq.triangle mode t v (g a (List.mem_cons_self ..)) (g _ (List.mem_cons_of_mem _ z.1)) (g _ (List.mem_cons_of_mem _ (List.mem_cons_of_mem _ z.2)))
  · exact d
end Mx


end
section
namespace Mx
open Sd21
theorem foldl_range_succ {β : Type} (f : β → Nat → β) (n : Nat) (b : β) : (List.range (n + 1)).foldl f b = f ((List.range n).foldl f b) n := by
  rw [List.range_succ, List.foldl_append]
  rfl
/-- a fold over 0 to n that changes nothing outside y0 to y1 -/
theorem win_fold {β : Type} (f : β → Nat → β) (n : Nat) (y0 y1 : Int) (b : β) (skip : ∀ i : Nat, i < n → ((i : Int) < y0 ∨ y1 ≤ (i : Int)) → ∀ b, f b i = b) :
    (List.range n).foldl f b = (List.range (min (n : Int) y1 - max 0 y0).toNat).foldl (fun b k => f b ((max 0 y0).toNat + k)) b := by
  by_cases h : max 0 y0 ≤ min (n : Int) y1
  · have e := foldl_window f n (max 0 y0).toNat (min (n : Int) y1).toNat (by omega) (by omega) b (fun i hi ho => skip i hi (by omega))
    rw [e]
    have e2 : (min (n : Int) y1).toNat - (max 0 y0).toNat = (min (n : Int) y1 - max 0 y0).toNat := by omega
    rw [e2]
  · have e2 : (min (n : Int) y1 - max 0 y0).toNat = 0 := by omega
    rw [e2, foldl_none f n b (fun i hi b => skip i hi (by omega) b)]
    rfl
theorem pixel_skip {mode : Mode} {t : List Nat} {v : Window} {a b c : Spot} {j i : Nat} (h : (i : Int) < v.x0 ∨ v.x1 ≤ (i : Int) ∨ (j : Int) < v.y0 ∨ v.y1 ≤ (j : Int)) (p : Picture) : pixelAt mode t v a b c j i p = p := by
  unfold pixelAt
  rw [if_pos h]
theorem pixel_none {mode : Mode} {t : List Nat} {v : Window} {a b c : Spot} {j i : Nat} (h : ¬ ((i : Int) < v.x0 ∨ v.x1 ≤ (i : Int) ∨ (j : Int) < v.y0 ∨ v.y1 ≤ (j : Int))) (e : weights a b c i j = none) (p : Picture) : pixelAt mode t v a b c j i p = p := by
  unfold pixelAt
  rw [if_neg h, e]
theorem pixel_some {mode : Mode} {t : List Nat} {v : Window} {a b c : Spot} {j i : Nat} {w : Int × Int × Int} (h : ¬ ((i : Int) < v.x0 ∨ v.x1 ≤ (i : Int) ∨ (j : Int) < v.y0 ∨ v.y1 ≤ (j : Int))) (e : weights a b c i j = some w) (p : Picture) :
    pixelAt mode t v a b c j i p = dot mode (j * p.width + i) (mean w.1 w.2.1 w.2.2 a.z b.z c.z).toNat (shade mode t a b c w) p := by
  unfold pixelAt
  rw [if_neg h, e]
/-- one row of a triangle, by the window -/
def rowOf (mode : Mode) (t : List Nat) (v : Window) (a b c : Spot) (w j : Nat) (p : Picture) : Picture := (List.range w).foldl (fun p i => pixelAt mode t v a b c j i p) p
theorem rowOf_skip {mode : Mode} {t : List Nat} {v : Window} {a b c : Spot} {w j : Nat} (h : (j : Int) < v.y0 ∨ v.y1 ≤ (j : Int)) (p : Picture) : rowOf mode t v a b c w j p = p :=
  foldl_none _ w p fun i _ b => pixel_skip (by omega) b
theorem rows_dims {mode : Mode} {t : List Nat} {v : Window} {a b c : Spot} {w h : Nat} {p : Picture} (d : Dims w h p) (ha : GoodS a) (hb : GoodS b) (hc : GoodS c) (hn : 0 < twice a b c) :
    rowsOf mode t v a b c p = (List.range h).foldl (fun p j => rowOf mode t v a b c w j p) p := by
  unfold rowsOf
  rw [d.high]
  have go : ∀ (l : List Nat) (q : Picture), Dims w h q → l.foldl (fun p j => (List.range p.width).foldl (fun p i => pixelAt mode t v a b c j i p) p) q = l.foldl (fun p j => rowOf mode t v a b c w j p) q := by
    intro l
    induction l with
    | nil => intro q _; rfl
    | cons x r ih =>
      intro q dq
      rw [List.foldl_cons, List.foldl_cons, dq.wide]
      exact ih _ (dq.row mode t v ha hb hc hn x _)
  exact go _ p d
theorem tri_out {mode : Mode} {t : List Nat} {v : Window} {a b c : Spot} (h : twice a b c = 0 ∨ (mode.side = 1 ∧ twice a b c < 0) ∨ (mode.side = 2 ∧ 0 < twice a b c)) (p : Picture) : triangle mode t v a b c p = p := by
  rw [triangle_eq, if_pos h]
theorem tri_in {mode : Mode} {t : List Nat} {v : Window} {a b c : Spot} (h : ¬ (twice a b c = 0 ∨ (mode.side = 1 ∧ twice a b c < 0) ∨ (mode.side = 2 ∧ 0 < twice a b c))) (p : Picture) : triangle mode t v a b c p = rowsOf mode t v a (if twice a b c < 0 then c else b) (if twice a b c < 0 then b else c) p := by
  rw [triangle_eq, if_neg h]
  rfl
end Mx


end
section
namespace Mx
open Sd21
/-! ## corners and faces by their places -/
theorem tens_len : ∀ (n : Nat) (l : List Int), (Sd21Neutral.tens n l).length = n
  | 0, _ => rfl
  | n + 1, l => by
    show (Sd21Neutral.tens n (l.drop 10)).length + 1 = n + 1
    rw [tens_len n]
theorem tens_get : ∀ (n : Nat) (l : List Int) (i : Nat), i < n → (Sd21Neutral.tens n l)[i]? = some ((l.drop (10 * i)).take 10)
  | 0, _, _, h => absurd h (Nat.not_lt_zero _)
  | n + 1, l, 0, _ => rfl
  | n + 1, l, i + 1, h => by
    show (Sd21Neutral.tens n (l.drop 10))[i]? = _
    rw [tens_get n (l.drop 10) i (by omega), List.drop_drop]
    have e : 10 + 10 * i = 10 * (i + 1) := by omega
    rw [e]
def cornerAt (cs : List Int) (i : Nat) : Corner := ⟨cs.getD (10 * i) 0, cs.getD (10 * i + 1) 0, cs.getD (10 * i + 2) 0, cs.getD (10 * i + 3) 0, cs.getD (10 * i + 4) 0, cs.getD (10 * i + 5) 0, cs.getD (10 * i + 6) 0, cs.getD (10 * i + 7) 0, cs.getD (10 * i + 8) 0, cs.getD (10 * i + 9) 0⟩
theorem cut_get (l : List Int) (a k : Nat) (h : k < 10) : ((l.drop a).take 10).getD k 0 = l.getD (a + k) 0 := by
  rw [List.getD_eq_getElem?_getD, List.getElem?_take, if_pos h, List.getElem?_drop, List.getD_eq_getElem?_getD]
theorem corner_at {n : Nat} {cs : List Int} {i : Nat} (h : i < n) : corner ((Sd21Neutral.tens n cs).getD i []) = cornerAt cs i := by
  rw [List.getD_eq_getElem?_getD, tens_get n cs i h]
  show corner ((cs.drop (10 * i)).take 10) = _
  unfold corner cornerAt
  rw [cut_get _ _ 0 (by decide), cut_get _ _ 1 (by decide), cut_get _ _ 2 (by decide), cut_get _ _ 3 (by decide), cut_get _ _ 4 (by decide), cut_get _ _ 5 (by decide), cut_get _ _ 6 (by decide), cut_get _ _ 7 (by decide), cut_get _ _ 8 (by decide), cut_get _ _ 9 (by decide)]
  rfl
structure Right (n : Nat) (m cs index : List Int) : Prop where
  mat : ∀ z ∈ m, small 24 z = true
  cor : ∀ i, i < n → goodCorner (cornerAt cs i) = true
  ind : ∀ x ∈ index, x.toNat < n
theorem right_iff {n : Nat} {m cs index : List Int} : right m (Sd21Neutral.tens n cs) (Sd21Neutral.nats index) = true ↔ Right n m cs index := by
  unfold right
  rw [Bool.and_eq_true, Bool.and_eq_true, List.all_eq_true, List.all_eq_true, List.all_eq_true]
  constructor
  · rintro ⟨h1, h2, h3⟩
    refine ⟨h1, fun i hi => ?_, fun x hx => ?_⟩
    · have g := tens_get n cs i hi
      have := h2 _ (List.mem_of_getElem? g)
      rw [← corner_at hi, List.getD_eq_getElem?_getD, g]
      exact this
    · have := h3 x.toNat (List.mem_map.mpr ⟨x, hx, rfl⟩)
      rw [decide_eq_true_eq, tens_len] at this
      exact this
  · rintro ⟨h1, h2, h3⟩
    refine ⟨h1, fun l hl => ?_, fun y hy => ?_⟩
    · obtain ⟨i, hi, e⟩ := List.mem_iff_getElem.mp hl
      have hn : i < n := by rw [tens_len] at hi; exact hi
      have g := tens_get n cs i hn
      rw [List.getElem?_eq_getElem hi, e] at g
      have := h2 i hn
      rw [← corner_at hn, List.getD_eq_getElem?_getD, List.getElem?_eq_getElem hi, e] at this
      exact this
    · obtain ⟨x, hx, rfl⟩ := List.mem_map.mp hy
      rw [decide_eq_true_eq, tens_len]
      exact h3 x hx
theorem threes_range : ∀ (k : Nat) (l : List Nat), l.length = 3 * k → threes l = (List.range k).map fun i => (l.getD (3 * i) 0, l.getD (3 * i + 1) 0, l.getD (3 * i + 2) 0)
  | 0, l, h => by
    have e : l = [] := List.length_eq_zero_iff.mp (by omega)
    subst e
    rfl
  | k + 1, l, h => by
    match l, h with
    | a :: b :: c :: r, h =>
      show (a, b, c) :: threes r = _
      have hr : r.length = 3 * k := by
        simp only [List.length_cons] at h
        omega
      rw [threes_range k r hr, List.range_succ_eq_map, List.map_cons, List.map_map]
      congr 1
    | [], h => simp at h
    | [a], h =>
      simp only [List.length_cons, List.length_nil] at h
      omega
    | [a, b], h =>
      simp only [List.length_cons, List.length_nil] at h
      omega
/-- the three corners of a face -/
def three (cs index : List Int) (k : Nat) : List Corner := [cornerAt cs (index.getD (3 * k) 0).toNat, cornerAt cs (index.getD (3 * k + 1) 0).toNat, cornerAt cs (index.getD (3 * k + 2) 0).toNat]
theorem nats_get (l : List Int) (i : Nat) : (Sd21Neutral.nats l).getD i 0 = (l.getD i 0).toNat := by
  unfold Sd21Neutral.nats
  rw [List.getD_eq_getElem?_getD, List.getElem?_map, List.getD_eq_getElem?_getD]
  cases l[i]? <;> rfl
theorem nats_len (l : List Int) : (Sd21Neutral.nats l).length = l.length := List.length_map ..
theorem ind_lt {n : Nat} {index : List Int} (h : ∀ x ∈ index, x.toNat < n) {i : Nat} (hi : i < index.length) : (index.getD i 0).toNat < n := by
  rw [List.getD_eq_getElem?_getD, List.getElem?_eq_getElem hi]
  exact h _ (List.getElem_mem hi)
theorem corners3_at {n : Nat} {m cs index : List Int} {k fs : Nat} (R : Right n m cs index) (hl : index.length = 3 * fs) (hk : k < fs) :
    corners3 (Sd21Neutral.tens n cs) ((Sd21Neutral.nats index).getD (3 * k) 0, (Sd21Neutral.nats index).getD (3 * k + 1) 0, (Sd21Neutral.nats index).getD (3 * k + 2) 0) = three cs index k := by
  unfold corners3 three
  simp only [List.map_cons, List.map_nil]
  rw [nats_get, nats_get, nats_get, corner_at (ind_lt R.ind (by omega)), corner_at (ind_lt R.ind (by omega)), corner_at (ind_lt R.ind (by omega))]
theorem three_good {n : Nat} {m cs index : List Int} {k fs : Nat} (R : Right n m cs index) (hl : index.length = 3 * fs) (hk : k < fs) : ∀ c ∈ three cs index k, GoodC c := by
  intro c hc
  unfold three at hc
  simp only [List.mem_cons, List.not_mem_nil, or_false] at hc
  rcases hc with e | e | e
  · rw [e]
    exact goodC (R.cor _ (ind_lt R.ind (by omega)))
  · rw [e]
    exact goodC (R.cor _ (ind_lt R.ind (by omega)))
  · rw [e]
    exact goodC (R.cor _ (ind_lt R.ind (by omega)))
theorem Right.bd {n : Nat} {m cs index : List Int} (R : Right n m cs index) : ∀ z ∈ m, Bd 16777215 z := fun z hz => small24 (R.mat z hz)
theorem foldl_congr_mem {α β : Type} (f g : β → α → β) : ∀ (l : List α) (b : β), (∀ x ∈ l, ∀ b, f b x = g b x) → l.foldl f b = l.foldl g b
  | [], _, _ => rfl
  | x :: r, b, h => by
    rw [List.foldl_cons, List.foldl_cons, h x (List.mem_cons_self ..)]
    exact foldl_congr_mem f g r _ fun y hy => h y (List.mem_cons_of_mem _ hy)
/-- the faces drawn, one by one -/
def facesUpTo (m cs index : List Int) (mode : Mode) (t : List Nat) (v : Window) (p : Picture) (k : Nat) : Picture := (List.range k).foldl (fun p i => face m mode t v (three cs index i) p) p
theorem faces_fold {n : Nat} {m cs index : List Int} {fs : Nat} (R : Right n m cs index) (hl : index.length = 3 * fs) (mode : Mode) (t : List Nat) (v : Window) (p : Picture) :
    (threes (Sd21Neutral.nats index)).foldl (fun p x => face m mode t v (corners3 (Sd21Neutral.tens n cs) x) p) p = facesUpTo m cs index mode t v p fs := by
  rw [threes_range fs _ (by rw [nats_len]; exact hl), List.foldl_map]
  refine foldl_congr_mem _ _ _ _ fun k hk b => ?_
  rw [corners3_at R hl (List.mem_range.mp hk)]
theorem Dims.faces {w h n : Nat} {m cs index : List Int} {fs : Nat} {p : Picture} (d : Dims w h p) (R : Right n m cs index) (hl : index.length = 3 * fs) (mode : Mode) (t : List Nat) (v : Window) {k : Nat} (hk : k ≤ fs) : Dims w h (facesUpTo m cs index mode t v p k) :=
  foldl_keep (P := Dims w h) _ _ _ d fun i hi q dq => dq.face mode t v R.bd (three_good R hl (by have := List.mem_range.mp hi; omega))
/-! ## what draw and faces answer -/
def BadSizes (w h n fs : Int) : Prop := ¬ (1 ≤ w ∧ w ≤ 1024 ∧ 1 ≤ h ∧ h ≤ 1024) ∨ n < 0 ∨ 4096 < n ∨ fs < 0 ∨ 8192 < fs
theorem sized_iff (w h : Int) : sized w h = true ↔ 1 ≤ w ∧ w ≤ 1024 ∧ 1 ≤ h ∧ h ≤ 1024 := by
  unfold sized SIZE
  rw [decide_eq_true_eq]
  omega
theorem sized_false (w h : Int) : sized w h = false ↔ ¬ (1 ≤ w ∧ w ≤ 1024 ∧ 1 ≤ h ∧ h ≤ 1024) := by
  rw [← sized_iff]
  cases sized w h <;> simp
theorem drawDef (w h n fs mode : Int) (pix depth m cs index pattern window : List Int) : PySd21.draw w h n fs mode pix depth m cs index pattern window =
    (let a := answer (.draw w h (Sd21Neutral.nats pix) (Sd21Neutral.nats depth) m (Sd21Neutral.tens (cs.length / 10) cs) n (Sd21Neutral.nats index) fs (Sd21Neutral.nats pattern) mode.toNat window)
     if a.value = 0 ∧ False = False then 0 :: (Sd21Neutral.ints a.pix ++ Sd21Neutral.ints a.depth) else [a.value]) := by
  show (let a := answer (.draw w h (Sd21Neutral.nats pix) (Sd21Neutral.nats depth) m (Sd21Neutral.tens (cs.length / 10) cs) n (Sd21Neutral.nats index) fs (Sd21Neutral.nats pattern) mode.toNat window)
     if a.value = 0 ∧ false = false then 0 :: (Sd21Neutral.ints a.pix ++ Sd21Neutral.ints a.depth) else [a.value]) = _
  simp
theorem draw_first {w h n fs mode : Int} {pix depth m cs index pattern window : List Int} (k : BadSizes w h n fs ∨ 63 < mode ∨ mode.toNat % 4 = 3) : PySd21.draw w h n fs mode pix depth m cs index pattern window = [-1] := by
  rw [drawDef]
  have e : answer (.draw w h (Sd21Neutral.nats pix) (Sd21Neutral.nats depth) m (Sd21Neutral.tens (cs.length / 10) cs) n (Sd21Neutral.nats index) fs (Sd21Neutral.nats pattern) mode.toNat window) = ⟨-1, Sd21Neutral.nats pix, Sd21Neutral.nats depth⟩ := by
    unfold answer
    dsimp only
    rw [if_pos]
    unfold BadSizes at k
    rw [sized_false]
    unfold CORNERS FACES
    omega
  rw [e]
  rfl
theorem draw_second {w h n fs mode : Int} {pix depth m cs index pattern window : List Int} (k : ¬ (BadSizes w h n fs ∨ 63 < mode ∨ mode.toNat % 4 = 3)) (hc : (cs.length : Int) = 10 * n)
    (b : ¬ Right n.toNat m cs index ∨ (∃ z ∈ window, ¬ small 24 z = true) ∨ ∃ z ∈ depth, 16777216 ≤ z) : PySd21.draw w h n fs mode pix depth m cs index pattern window = [-2] := by
  rw [drawDef]
  have en : cs.length / 10 = n.toNat := by omega
  have e : answer (.draw w h (Sd21Neutral.nats pix) (Sd21Neutral.nats depth) m (Sd21Neutral.tens (cs.length / 10) cs) n (Sd21Neutral.nats index) fs (Sd21Neutral.nats pattern) mode.toNat window) = ⟨-2, Sd21Neutral.nats pix, Sd21Neutral.nats depth⟩ := by
    unfold answer
    dsimp only
    rw [if_neg, if_pos]
    · rw [en]
      rcases b with b | ⟨z, hz, b⟩ | ⟨z, hz, b⟩
      · left
        cases q : right m (Sd21Neutral.tens n.toNat cs) (Sd21Neutral.nats index) with
        | false => rfl
        | true => exact absurd (right_iff.mp q) b
      · right; left
        cases q : window.all (small 24) with
        | false => rfl
        | true => exact absurd (List.all_eq_true.mp q z hz) b
      · right; right
        refine List.any_eq_true.mpr ⟨z.toNat, List.mem_map.mpr ⟨z, hz, rfl⟩, ?_⟩
        rw [decide_eq_true_eq]
        omega
    · unfold BadSizes at k
      rw [sized_false]
      unfold CORNERS FACES
      omega
  rw [e]
  rfl
theorem draw_zero {w h n fs mode : Int} {pix depth m cs index pattern window : List Int} (k : ¬ (BadSizes w h n fs ∨ 63 < mode ∨ mode.toNat % 4 = 3)) (hc : (cs.length : Int) = 10 * n) (hi : (index.length : Int) = 3 * fs)
    (R : Right n.toNat m cs index) (hw : ∀ z ∈ window, small 24 z = true) (hd : ∀ z ∈ depth, z < 16777216) : PySd21.draw w h n fs mode pix depth m cs index pattern window =
      (let p := facesUpTo m cs index (modeOf mode.toNat) (Sd21Neutral.nats pattern) ⟨window.getD 0 0, window.getD 1 0, window.getD 2 0, window.getD 3 0⟩ ⟨w.toNat, h.toNat, Sd21Neutral.nats pix, Sd21Neutral.nats depth⟩ fs.toNat
       0 :: (Sd21Neutral.ints p.pix ++ Sd21Neutral.ints p.depth)) := by
  rw [drawDef]
  have en : cs.length / 10 = n.toNat := by omega
  have e : answer (.draw w h (Sd21Neutral.nats pix) (Sd21Neutral.nats depth) m (Sd21Neutral.tens (cs.length / 10) cs) n (Sd21Neutral.nats index) fs (Sd21Neutral.nats pattern) mode.toNat window) =
      (let p := facesUpTo m cs index (modeOf mode.toNat) (Sd21Neutral.nats pattern) ⟨window.getD 0 0, window.getD 1 0, window.getD 2 0, window.getD 3 0⟩ ⟨w.toNat, h.toNat, Sd21Neutral.nats pix, Sd21Neutral.nats depth⟩ fs.toNat
       ⟨0, p.pix, p.depth⟩) := by
    have hf : index.length = 3 * fs.toNat := by
      unfold BadSizes at k
      omega
    unfold answer
    dsimp only
    rw [if_neg, if_neg]
    · rw [en, faces_fold R hf]
    · rw [en]
      rintro (q | q | q)
      · rw [right_iff.mpr R] at q
        cases q
      · rw [List.all_eq_true.mpr hw] at q
        cases q
      · obtain ⟨y, hy, q⟩ := List.any_eq_true.mp q
        obtain ⟨z, hz, rfl⟩ := List.mem_map.mp hy
        rw [decide_eq_true_eq] at q
        have := hd z hz
        omega
    · unfold BadSizes at k
      rw [sized_false]
      unfold CORNERS FACES
      omega
  rw [e]
  rfl
end Mx


end
section
namespace Mx
open Sd21
end Mx


end
section
namespace Mx
open Sd21
/-! ## what is asked of a request -/
structure PicReq (w h : Int) (l : List Int) : Prop where
  nn : ∀ z ∈ l, 0 ≤ z ∧ z < 4294967296
  len : (1 ≤ w ∧ w ≤ 1024 ∧ 1 ≤ h ∧ h ≤ 1024) → (l.length : Int) = w * h
theorem area_in {w h : Int} (k : 1 ≤ w ∧ w ≤ 1024 ∧ 1 ≤ h ∧ h ≤ 1024) : 1 ≤ w * h ∧ w * h ≤ 1048576 := by
  obtain ⟨a, b, c, d⟩ := k
  have p := Int.mul_le_mul a c (by omega) (by omega)
  have q := Int.mul_le_mul b d (by omega) (by omega)
  exact ⟨by omega, by omega⟩
theorem pic_req {w h : Int} {l : List Int} (h1 : l.all (fun (z : Int) => Sd21Neutral.natural z 32) = true) (h2 : Sd21Neutral.long l (Sd21Neutral.area w h) 0 1048576 = true) : PicReq w h l := by
  refine ⟨fun z hz => ?_, fun k => ?_⟩
  · have := List.all_eq_true.mp h1 z hz
    unfold Sd21Neutral.natural at this
    rw [Bool.and_eq_true, decide_eq_true_eq, decide_eq_true_eq] at this
    omega
  · unfold Sd21Neutral.long Sd21Neutral.area at h2
    rw [decide_eq_true_eq, if_pos k] at h2
    have := area_in k
    rw [if_pos (by omega)] at h2
    exact h2
theorem long_at {l : List Int} {n lo hi : Int} (h : Sd21Neutral.long l n lo hi = true) (k : lo ≤ n ∧ n ≤ hi) : (l.length : Int) = n := by
  unfold Sd21Neutral.long at h
  rw [decide_eq_true_eq, if_pos k] at h
  exact h
theorem nat_of {l : List Int} {b : Nat} (h : l.all (fun (z : Int) => Sd21Neutral.natural z b) = true) : ∀ z ∈ l, 0 ≤ z ∧ z < 2 ^ b := by
  intro z hz
  have := List.all_eq_true.mp h z hz
  unfold Sd21Neutral.natural at this
  rw [Bool.and_eq_true, decide_eq_true_eq, decide_eq_true_eq] at this
  exact this
theorem w32_of {l : List Int} (h : l.all (fun (z : Int) => Sd21Neutral.whole32 z) = true) : ∀ z ∈ l, Bd 2147483648 z := by
  intro z hz
  have := List.all_eq_true.mp h z hz
  unfold Sd21Neutral.whole32 at this
  rw [Bool.and_eq_true, decide_eq_true_eq, decide_eq_true_eq] at this
  exact ⟨by omega, by omega⟩
theorem w32_at {z : Int} (h : Sd21Neutral.whole32 z = true) : Bd 2147483648 z := by
  unfold Sd21Neutral.whole32 at h
  rw [Bool.and_eq_true, decide_eq_true_eq, decide_eq_true_eq] at h
  exact ⟨by omega, by omega⟩
/-- what draw and faces are both handed -/
structure ModelReq (w h n fs : Int) (m cs index : List Int) : Prop where
  bw : Bd 2147483648 w
  bh : Bd 2147483648 h
  bn : Bd 2147483648 n
  bf : Bd 2147483648 fs
  mb : ∀ z ∈ m, Bd 2147483648 z
  ml : m.length = 16
  cb : ∀ z ∈ cs, Bd 2147483648 z
  cl : 0 ≤ n ∧ n ≤ 4096 → (cs.length : Int) = 10 * n
  ib : ∀ z ∈ index, 0 ≤ z ∧ z < 65536
  il : 0 ≤ fs ∧ fs ≤ 8192 → (index.length : Int) = 3 * fs
structure DrawReq (w h n fs mode : Int) (pix depth m cs index pattern window : List Int) : Prop extends ModelReq w h n fs m cs index where
  bm : 0 ≤ mode ∧ mode < 4294967296
  pic : PicReq w h pix
  dep : PicReq w h depth
  pb : ∀ z ∈ pattern, 0 ≤ z ∧ z < 4294967296
  pl : pattern.length = 4096
  wb : ∀ z ∈ window, Bd 2147483648 z
  wl : window.length = 4
theorem draw_req {w h n fs mode : Int} {pix depth m cs index pattern window : List Int} (k : PySd21.draw_asked w h n fs mode pix depth m cs index pattern window = true) : DrawReq w h n fs mode pix depth m cs index pattern window := by
  have k1 : Sd21Neutral.asked1 [[2, w, h, n, fs, mode], pix, depth, m, cs, index, pattern, window] = true := (Bool.and_eq_true_iff.mp k).1
  simp only [Sd21Neutral.asked1, Bool.and_eq_true] at k1
  obtain ⟨a1, a2, a3, a4, a5, b1, b2, c1, c2, d1, d2, e1, e2, f1, f2, g1, g2, h1, h2⟩ := k1
  unfold Sd21Neutral.natural at a5
  rw [Bool.and_eq_true, decide_eq_true_eq, decide_eq_true_eq] at a5
  have l16 := long_at d2 (by decide)
  have l4096 := long_at g2 (by decide)
  have l4 := long_at h2 (by decide)
  exact { bw := w32_at a1, bh := w32_at a2, bn := w32_at a3, bf := w32_at a4, mb := w32_of d1, ml := by omega, cb := w32_of e1, cl := fun z => long_at e2 (by omega), ib := fun z hz => by have := nat_of f1 z hz; omega,
          il := fun z => long_at f2 (by omega), bm := by omega, pic := pic_req b1 b2, dep := pic_req c1 c2, pb := fun z hz => by have := nat_of g1 z hz; omega, pl := by omega, wb := w32_of h1, wl := by omega }
/-- the picture that is handed in -/
theorem dims_start {w h n fs mode : Int} {pix depth m cs index pattern window : List Int} (R : DrawReq w h n fs mode pix depth m cs index pattern window) (k : 1 ≤ w ∧ w ≤ 1024 ∧ 1 ≤ h ∧ h ≤ 1024) (hd : ∀ z ∈ depth, z < 16777216) :
    Dims w.toNat h.toNat ⟨w.toNat, h.toNat, Sd21Neutral.nats pix, Sd21Neutral.nats depth⟩ := by
  have e : ((w.toNat * h.toNat : Nat) : Int) = w * h := by
    rw [Int.natCast_mul, Int.toNat_of_nonneg (by omega), Int.toNat_of_nonneg (by omega)]
  refine ⟨rfl, rfl, ?_, ?_, ?_, ?_⟩
  · show (Sd21Neutral.nats pix).length = _
    rw [nats_len]
    have := R.pic.len k
    omega
  · show (Sd21Neutral.nats depth).length = _
    rw [nats_len]
    have := R.dep.len k
    omega
  · intro z hz
    obtain ⟨y, hy, rfl⟩ := List.mem_map.mp hz
    have := hd y hy
    omega
  · intro z hz
    obtain ⟨y, hy, rfl⟩ := List.mem_map.mp hz
    have := (R.pic.nn y hy).2
    omega
end Mx


end
section
set_option Elab.async false
set_option linter.all false
set_option maxRecDepth 100000
namespace Dw
open PySem PySem.Spec PyProof.Rows L2 L3
def top (i : Nat) : Stmt := PySem.Challenge.pw_solidpicture_s02_draw.main.body.getD i (.Pass ⟨0, 0, 0, 0⟩)
abbrev s_is_picture_size : Stmt := top 10
abbrev s_are_counts : Stmt := top 11
abbrev s_is_mode : Stmt := top 12
abbrev s_are_plain_numbers : Stmt := top 13
abbrev s_are_colors : Stmt := top 14
abbrev s_are_corners : Stmt := top 15
abbrev s_is_solid : Stmt := top 16
abbrev s_faces_refusal : Stmt := top 17
abbrev s_draw_refusal : Stmt := top 18
abbrev s_times : Stmt := top 24
abbrev s_moved_corner : Stmt := top 25
abbrev s_moved_corners : Stmt := top 26
abbrev s_moved_faces : Stmt := top 27
abbrev s_is_in_front : Stmt := top 28
abbrev s_crossing : Stmt := top 29
abbrev s_cut_face : Stmt := top 30
abbrev s_put_corner : Stmt := top 31
abbrev s_is_near : Stmt := top 32
abbrev s_face_triangles : Stmt := top 33
abbrev s_turn : Stmt := top 34
abbrev s_product : Stmt := top 37
abbrev s_split_pixel : Stmt := top 38
abbrev s_joined_pixel : Stmt := top 39
abbrev s_patterned : Stmt := top 40
abbrev s_mixed : Stmt := top 41
abbrev s_Canvas_init : Stmt := inClass (top 45) 0
abbrev s_Slope_init : Stmt := inClass (top 46) 0
abbrev s_Slope_at : Stmt := inClass (top 46) 1
abbrev s_Shade_init : Stmt := inClass (top 47) 0
abbrev s_edge_slope : Stmt := top 48
abbrev s_weighted : Stmt := top 49
abbrev s_shared : Stmt := top 50
abbrev s_least_inside : Stmt := top 51
abbrev s_row_span : Stmt := top 52
abbrev s_new_pixel : Stmt := top 53
abbrev s_draw_row : Stmt := top 54
abbrev s_fill_triangle : Stmt := top 55
abbrev s_draw_triangle : Stmt := top 56
abbrev s_draw : Stmt := top 58
end Dw


end
section
set_option Elab.async false
set_option linter.all false
set_option maxRecDepth 100000
set_option maxHeartbeats 2000000
namespace Dw
open PySem PySem.Spec PyProof.Rows L2 L3
/-! numbers of eight bits -/
theorem or_add {a b k : Nat} (h : b < 2 ^ k) : Builtin.bitOr ((a * 2 ^ k : Nat) : Int) (b : Int) = ((a * 2 ^ k + b : Nat) : Int) := by
  rw [bitOr_and, bitAnd_pp (by omega) (by omega), Int.toNat_natCast, Int.toNat_natCast]
  have z : a * 2 ^ k &&& b = 0 := by
    apply Nat.eq_of_testBit_eq
    intro i
    rw [Nat.testBit_and, Nat.zero_testBit, Nat.mul_comm]
    by_cases hi : i < k
    · rw [Nat.testBit_two_pow_mul, decide_eq_false (by omega), Bool.false_and, Bool.false_and]
    · rw [Nat.testBit_lt_two_pow (Nat.lt_of_lt_of_le h (Nat.pow_le_pow_right (by omega) (by omega))), Bool.and_false]
  rw [z]
  omega
theorem or_num {a b k m : Nat} (hm : m = 2 ^ k) (h : b < m) : Builtin.bitOr ((a * m : Nat) : Int) (b : Int) = ((a * m + b : Nat) : Int) := by
  subst hm
  exact or_add h
theorem texel_at {t : List Nat} (ht : t.length = 4096) (u v : Int) : nth (Sd21Neutral.ints t) (v / 2 ^ (10 : Int).toNat % 64 * 64 + u / 2 ^ (10 : Int).toNat % 64) = ((Sd21.texel t u v : Nat) : Int) ∧ (∀ x ∈ t, x < 4294967296 → Sd21.texel t u v < 4294967296 ∨ True) := by
  refine ⟨?_, fun _ _ _ => .inr trivial⟩
  unfold nth Sd21.texel Sd21.shr Sd21.SIDE
  have e : (v / 2 ^ (10 : Int).toNat % 64 * 64 + u / 2 ^ (10 : Int).toNat % 64).toNat = (v / 2 ^ 10 % 64).toNat * 64 + (u / 2 ^ 10 % 64).toNat := by
    show (v / 1024 % 64 * 64 + u / 1024 % 64).toNat = (v / 1024 % 64).toNat * 64 + (u / 1024 % 64).toNat
    omega
  rw [e]
  have lt : (v / 2 ^ 10 % 64).toNat * 64 + (u / 2 ^ 10 % 64).toNat < t.length := by
    rw [ht]
    show (v / 1024 % 64).toNat * 64 + (u / 1024 % 64).toNat < 4096
    omega
  rw [List.getD_eq_getElem?_getD, Mx.ints_get lt]
  rfl
theorem texel_lt {t : List Nat} (hb : ∀ x ∈ t, x < 4294967296) (u v : Int) : Sd21.texel t u v < 4294967296 := by
  unfold Sd21.texel
  rw [List.getD_eq_getElem?_getD]
  cases e : t[(Sd21.shr v 10 % 64).toNat * Sd21.SIDE + (Sd21.shr u 10 % 64).toNat]? with
  | none => decide
  | some x => exact hb x (List.mem_of_getElem? e)
theorem times_le {x y : Nat} (hx : x ≤ 255) (hy : y ≤ 255) : Sd21.times x y ≤ y := by
  unfold Sd21.times
  have h : x * y ≤ 255 * y := Nat.mul_le_mul_right y hx
  rw [Nat.mul_assoc]
  omega
theorem times_full (y : Nat) : Sd21.times 255 y = y := by
  unfold Sd21.times
  omega
theorem part_le (p k : Nat) : Sd21.part p k ≤ 255 := by
  unfold Sd21.part
  omega
/-- four numbers of eight bits: red, green, blue, cover -/
structure Px where
  r : Nat
  g : Nat
  b : Nat
  k : Nat
def Px.l (c : Px) : List Int := [(c.r : Int), (c.g : Int), (c.b : Int), (c.k : Int)]
structure Px.Ok (c : Px) : Prop where
  r : c.r ≤ 255
  g : c.g ≤ 255
  b : c.b ≤ 255
  k : c.k ≤ 255
def Px.pack (c : Px) : Nat := Sd21.pack c.r c.g c.b c.k
def Px.of (p : Nat) : Px := ⟨Sd21.part p 2, Sd21.part p 1, Sd21.part p 0, Sd21.part p 3⟩
theorem Px.of_ok (p : Nat) : (Px.of p).Ok := ⟨part_le _ _, part_le _ _, part_le _ _, part_le _ _⟩
theorem Px.of_pack {c : Px} (h : c.Ok) : Px.of c.pack = c := by
  obtain ⟨r, g, b, k⟩ := c
  have h1 := h.r; have h2 := h.g; have h3 := h.b; have h4 := h.k
  dsimp only at h1 h2 h3 h4
  simp only [Px.of, Px.pack, Sd21.pack, Sd21.part, Px.mk.injEq]
  refine ⟨?_, ?_, ?_, ?_⟩ <;> omega
def Px.mul (c o : Px) : Px := ⟨Sd21.times c.r o.r, Sd21.times c.g o.g, Sd21.times c.b o.b, Sd21.times c.k o.k⟩
theorem Px.mul_ok {c o : Px} (h : c.Ok) (h2 : o.Ok) : (c.mul o).Ok := ⟨Nat.le_trans (times_le h.r h2.r) h2.r, Nat.le_trans (times_le h.g h2.g) h2.g, Nat.le_trans (times_le h.b h2.b) h2.b, Nat.le_trans (times_le h.k h2.k) h2.k⟩
def Px.mix (c o : Px) : Px := ⟨Sd21.times c.r c.k + Sd21.times o.r (255 - c.k), Sd21.times c.g c.k + Sd21.times o.g (255 - c.k), Sd21.times c.b c.k + Sd21.times o.b (255 - c.k), c.k + Sd21.times o.k (255 - c.k)⟩
theorem Px.mix_ok {c o : Px} (h : c.Ok) (h2 : o.Ok) : (c.mix o).Ok := by
  have e1 := h.k
  have a1 := times_le h.r h.k; have a2 := times_le h.g h.k; have a3 := times_le h.b h.k
  have b1 := times_le h2.r (show 255 - c.k ≤ 255 by omega); have b2 := times_le h2.g (show 255 - c.k ≤ 255 by omega); have b3 := times_le h2.b (show 255 - c.k ≤ 255 by omega); have b4 := times_le h2.k (show 255 - c.k ≤ 255 by omega)
  refine ⟨?_, ?_, ?_, ?_⟩ <;> simp only [Px.mix] <;> omega
theorem over_eq {c : Px} (h : c.Ok) (old : Nat) : Sd21.over c.pack old = (c.mix (Px.of old)).pack := by
  have e := Px.of_pack h
  have m := Px.mix_ok h (Px.of_ok old)
  have p3 : Sd21.part c.pack 3 = c.k := congrArg Px.k e
  have p2 : Sd21.part c.pack 2 = c.r := congrArg Px.r e
  have p1 : Sd21.part c.pack 1 = c.g := congrArg Px.g e
  have p0 : Sd21.part c.pack 0 = c.b := congrArg Px.b e
  have m1 := m.r; have m2 := m.g; have m3 := m.b; have m4 := m.k
  simp only [Px.mix, Px.of] at m1 m2 m3 m4
  unfold Sd21.over
  simp only [p3, p2, p1, p0]
  rw [Nat.min_eq_right m1, Nat.min_eq_right m2, Nat.min_eq_right m3, Nat.min_eq_right m4]
  rfl
/-- the numbers of two colours, place by place -/
theorem px_zip {c o : Px} (hc : c.Ok) (ho : o.Ok) {i : Nat} {y z : V} (hy : (c.l.map V.int)[i]? = some y) (hz : (o.l.map V.int)[i]? = some z) :
    ∃ p q : Nat, y = .int p ∧ z = .int q ∧ p ≤ 255 ∧ q ≤ 255 ∧ ((Sd21.times p q : Nat) : Int) = (c.mul o).l.getD i 0 ∧ i < 4 := by
  match i, hy, hz with
  | 0, hy, hz => cases hy; cases hz; exact ⟨_, _, rfl, rfl, hc.r, ho.r, rfl, by omega⟩
  | 1, hy, hz => cases hy; cases hz; exact ⟨_, _, rfl, rfl, hc.g, ho.g, rfl, by omega⟩
  | 2, hy, hz => cases hy; cases hz; exact ⟨_, _, rfl, rfl, hc.b, ho.b, rfl, by omega⟩
  | 3, hy, hz => cases hy; cases hz; exact ⟨_, _, rfl, rfl, hc.k, ho.k, rfl, by omega⟩
  | i + 4, hy, _ => simp [Px.l] at hy
theorem mix_zip {c o : Px} (hc : c.Ok) (ho : o.Ok) {i : Nat} {y z : V} (hy : ((Px.mk c.r c.g c.b 255).l.map V.int)[i]? = some y) (hz : (o.l.map V.int)[i]? = some z) :
    ∃ p q : Nat, y = .int p ∧ z = .int q ∧ p ≤ 255 ∧ q ≤ 255 ∧ ((Sd21.times p c.k : Nat) : Int) + ((Sd21.times q (255 - c.k) : Nat) : Int) = (c.mix o).l.getD i 0 ∧ i < 4 := by
  match i, hy, hz with
  | 0, hy, hz => cases hy; cases hz; exact ⟨_, _, rfl, rfl, hc.r, ho.r, rfl, by omega⟩
  | 1, hy, hz => cases hy; cases hz; exact ⟨_, _, rfl, rfl, hc.g, ho.g, rfl, by omega⟩
  | 2, hy, hz => cases hy; cases hz; exact ⟨_, _, rfl, rfl, hc.b, ho.b, rfl, by omega⟩
  | 3, hy, hz =>
    cases hy; cases hz
    refine ⟨_, _, rfl, rfl, Nat.le_refl _, ho.k, ?_, by omega⟩
    rw [times_full]
    rfl
  | i + 4, hy, _ => simp [Px.l] at hy
theorem four_by {c : Px} {ys : List V} (hl : ys.length = 4) (h : ∀ (i : Nat) (y : V), ys[i]? = some y → y = V.int (c.l.getD i 0)) : ys = c.l.map V.int := by
  rw [items_by hl h]
  rfl
local macro_rules | `(tactic| walk_at "side") => `(tactic| first
  | assumption
  | omega
  | exact Or.inl ⟨by omega, by omega⟩
  | exact Or.inr ⟨by omega, by omega⟩
  | exact ⟨by omega, by omega⟩
  | exact ⟨by omega, by omega, by omega⟩
  | decide)
local macro_rules | `(tactic| walk_at "rd1") => `(tactic| first
  | refine ⟨_, rfl, ?_⟩
  | refine ⟨_, _, rfl, rfl, ?_⟩
  | refine ⟨_, rfl, rfl, ?_⟩
  | refine ⟨_, _, _, _, rfl, rfl, (by assumption), (by rfl), ?_⟩
  | refine ⟨_, _, _, _, rfl, rfl, (by assumption), at_ints (by walk_at "side") (by walk_at "side"), ?_⟩
  | refine ⟨_, _, rfl, ?_⟩
  | refine And.intro (by walk_at "side") ?_)
local macro_rules | `(tactic| walk_at "rd") => `(tactic| repeat (walk_at "rd1"))
section
variable {P : Program} {w : World} {K : PySem.W.Frag} {mg : Str → Option Value} {base : Heap}
/-! product, split_pixel, joined_pixel -/
theorem sc_product : FnScope ["x", "y"] ["x", "y"] (defScope s_product) := ⟨rfl, rfl, rfl, by decide +kernel, rfl, by decide +kernel, by decide +kernel⟩
def spProduct : Sp := fun vs H Q _ => ∃ x y : Nat, vs = [.int x, .int y] ∧ x ≤ 255 ∧ y ≤ 255 ∧ Q (.int (Sd21.times x y : Nat)) H
theorem ok_product {f : Addr} {fd : FuncData} (F : Fun K "product" "product" s_product f fd) : FnOk P w K mg base CX0 1 f fd ["x", "y"] spProduct := by
  refine F.ok sc_product (fun vs H Q E h => ?_) (fun cdv A outer s H vs Q E hr h => ?_)
  · obtain ⟨_, _, rfl, _⟩ := h
    rfl
  · obtain ⟨x, y, rfl, hx, hy, k⟩ := h
    refine ⟨_, (pss_one (ps_ret (pe_op L3.op_div (pe_op op_add (pe_op op_mul (pe_op op_mul pe_int (pv 0)) (pv 1)) pe_int) pe_int))), ?_⟩
    walk_at "rd"
    have e : (2 * (x : Int) * y + 255) / 510 = ((Sd21.times x y : Nat) : Int) := by
      unfold Sd21.times
      rw [Int.natCast_ediv, Int.natCast_add, Int.natCast_mul, Int.natCast_mul]
      rfl
    rw [← e] at k
    exact k
theorem sc_split_pixel : FnScope ["pixel"] ["pixel"] (defScope s_split_pixel) := ⟨rfl, rfl, rfl, by decide +kernel, rfl, by decide +kernel, by decide +kernel⟩
def spSplit : Sp := fun vs H Q _ => ∃ p : Nat, vs = [.int p] ∧ p < 4294967296 ∧ ∀ l, H l = none → Q (.ref l) (upd H l (.lst ((Px.of p).l.map V.int)))
theorem ok_split {f : Addr} {fd : FuncData} (F : Fun K "split_pixel" "split_pixel" s_split_pixel f fd) : FnOk P w K mg base CX0 1 f fd ["pixel"] spSplit := by
  refine F.ok sc_split_pixel (fun vs H Q E h => ?_) (fun cdv A outer s H vs Q E hr h => ?_)
  · obtain ⟨_, rfl, _⟩ := h
    rfl
  · obtain ⟨p, rfl, hp, k⟩ := h
    refine ⟨_, (pss_one (ps_ret (pe_lst (L3.pac (pe_op L3.op_and8 (pe_op op_shr (pv 0) pe_int) pe_int) (L3.pac (pe_op L3.op_and8 (pe_op op_shr (pv 0) pe_int) pe_int) (L3.pac (pe_op L3.op_and8 (pv 0) pe_int) (L3.pac (pe_op op_shr (pv 0) pe_int) pa_nil))))))), ?_⟩
    walk_at "rd"
    refine ⟨by show 4 ≤ sizeLine; decide, fun l hl => ?_⟩
    have e : [V.int ((p : Int) / 2 ^ (16 : Int).toNat % 256), V.int ((p : Int) / 2 ^ (8 : Int).toNat % 256), V.int ((p : Int) % 256), V.int ((p : Int) / 2 ^ (24 : Int).toNat)] = (Px.of p).l.map V.int := by
      simp only [Px.of, Px.l, List.map_cons, List.map_nil, Sd21.part]
      have e1 : (p : Int) / 2 ^ (16 : Int).toNat % 256 = ((p / 256 ^ 2 % 256 : Nat) : Int) := by
        show (p : Int) / 65536 % 256 = _
        omega
      have e2 : (p : Int) / 2 ^ (8 : Int).toNat % 256 = ((p / 256 ^ 1 % 256 : Nat) : Int) := by
        show (p : Int) / 256 % 256 = _
        omega
      have e3 : (p : Int) % 256 = ((p / 256 ^ 0 % 256 : Nat) : Int) := by omega
      have e4 : (p : Int) / 2 ^ (24 : Int).toNat = ((p / 256 ^ 3 % 256 : Nat) : Int) := by
        show (p : Int) / 16777216 = _
        omega
      rw [e1, e2, e3, e4]
    have q := k l hl
    rw [← e] at q
    exact q
theorem sc_joined_pixel : FnScope ["color"] ["color"] (defScope s_joined_pixel) := ⟨rfl, rfl, rfl, by decide +kernel, rfl, by decide +kernel, by decide +kernel⟩
def spJoined (K : PySem.W.Frag) : Sp := fun vs H Q _ => ∃ (a : Addr) (c : Px), vs = [.ref a] ∧ LI K H a c.l ∧ c.Ok ∧ Q (.int (c.pack : Nat)) H
theorem ok_joined {f : Addr} {fd : FuncData} (F : Fun K "joined_pixel" "joined_pixel" s_joined_pixel f fd) : FnOk P w K mg base CX0 1 f fd ["color"] (spJoined K) := by
  refine F.ok sc_joined_pixel (fun vs H Q E h => ?_) (fun cdv A outer s H vs Q E hr h => ?_)
  · obtain ⟨_, _, rfl, _⟩ := h
    rfl
  · obtain ⟨a, ⟨r, g, b, kk⟩, rfl, hl, ok, k⟩ := h
    have h1 := ok.r; have h2 := ok.g; have h3 := ok.b; have h4 := ok.k
    dsimp only at h1 h2 h3 h4
    dsimp only [Px.l] at hl
    refine ⟨_, (pss_one (ps_ret (pe_op op_or (pe_op op_or (pe_op op_or (pe_op op_shl (L3.ixL (K := K) (pv 0) pe_int) pe_int) (pe_op op_shl (L3.ixL (K := K) (pv 0) pe_int) pe_int)) (pe_op op_shl (L3.ixL (K := K) (pv 0) pe_int) pe_int)) (L3.ixL (K := K) (pv 0) pe_int)))), ?_⟩
    walk_at "rd"
    have e : Builtin.bitOr (Builtin.bitOr (Builtin.bitOr ((kk : Int) * 2 ^ (24 : Int).toNat) ((r : Int) * 2 ^ (16 : Int).toNat)) ((g : Int) * 2 ^ (8 : Int).toNat)) (b : Int) = ((Px.pack ⟨r, g, b, kk⟩ : Nat) : Int) := by
      have e1 : (kk : Int) * 2 ^ (24 : Int).toNat = ((kk * 16777216 : Nat) : Int) := by
        show (kk : Int) * 16777216 = _
        omega
      have e2 : (r : Int) * 2 ^ (16 : Int).toNat = ((r * 65536 : Nat) : Int) := by
        show (r : Int) * 65536 = _
        omega
      have e3 : (g : Int) * 2 ^ (8 : Int).toNat = ((g * 256 : Nat) : Int) := by
        show (g : Int) * 256 = _
        omega
      have e4 : kk * 16777216 + r * 65536 = (kk * 256 + r) * 65536 := by omega
      have e5 : (kk * 256 + r) * 65536 + g * 256 = (kk * 65536 + r * 256 + g) * 256 := by grind
      rw [e1, e2, or_num (m := 16777216) (k := 24) rfl (by omega), e3, e4, or_num (m := 65536) (k := 16) rfl (by omega), e5, or_num (m := 256) (k := 8) rfl (by omega)]
      show _ = ((Sd21.pack r g b kk : Nat) : Int)
      unfold Sd21.pack
      omega
    rw [← e] at k
    exact k
/-! patterned, mixed -/
theorem sc_patterned : FnScope ["color", "pattern", "u", "v", "row", "column", "other", "x", "y"] ["color", "pattern", "u", "v"] (defScope s_patterned) := ⟨rfl, rfl, rfl, by decide +kernel, rfl, by decide +kernel, by decide +kernel⟩
def spPatterned (K : PySem.W.Frag) : Sp := fun vs H Q _ => ∃ (a p : Addr) (c : Px) (t : List Nat) (u v : Int), vs = [.ref a, .ref p, .int u, .int v] ∧ LI K H a c.l ∧ c.Ok ∧ LI K H p (Sd21Neutral.ints t) ∧ t.length = 4096 ∧ (∀ x ∈ t, x < 4294967296) ∧
  ∀ H' l, Same H H' → H' l = some (.lst ((c.mul (Px.of (Sd21.texel t u v))).l.map V.int)) → Q (.ref l) H'
theorem ok_patterned {f : Addr} {fd : FuncData} (F : Fun K "patterned" "patterned" s_patterned f fd) (m_PATTERN_SIDE : Num mg "PATTERN_SIDE" 64) (m_zip : mg "zip" = none)
    (c_split_pixel : Can P w K mg base 1 "split_pixel" ["pixel"] spSplit) (c_product : Can P w K mg base 1 "product" ["x", "y"] spProduct) : FnOk P w K mg base CX0 2 f fd ["color", "pattern", "u", "v"] (spPatterned K) := by
  refine F.ok sc_patterned (fun vs H Q E h => ?_) (fun cdv A outer s H vs Q E hr h => ?_)
  · obtain ⟨_, _, _, _, _, _, rfl, _⟩ := h
    rfl
  · obtain ⟨a, p, c, t, u, v, rfl, hl, ok, hp, ht, hb, k⟩ := h
    refine ⟨_, (pss_cons (ps_set (i := 4) sc_patterned.nd rfl (Or.inl rfl) (pe_op op_mod (pe_op op_shr (pv 3) pe_int) (L3.pnum m_PATTERN_SIDE)))
      (pss_cons (ps_set (i := 5) sc_patterned.nd rfl (Or.inl rfl) (pe_op op_mod (pe_op op_shr (pv 2) pe_int) (L3.pnum m_PATTERN_SIDE)))
      (pss_cons (ps_set (i := 6) sc_patterned.nd rfl (Or.inl rfl) (L3.pcan c_split_pixel (hr.mono (by decide)) (L3.pac (L3.ixL (K := K) (pv 1) (pe_op op_add (pe_op op_mul (pv 4) (L3.pnum m_PATTERN_SIDE)) (pv 5))) pa_nil)))
      (pss_one (ps_ret (L3.lcval rfl sc_patterned.nd (L3.pizip m_zip (L3.pac (pv 0) (L3.pac (pv 6) pa_nil))) (blkOk_by (own := [("x", 7), ("y", 8)]) rfl) (fun _ _ _ _ _ => (L3.tgt2 (K := K) rfl (pg_name (i := 7) sc_patterned.nd rfl (Or.inl rfl) (Or.inr rfl)) (pg_name (i := 8) sc_patterned.nd rfl (Or.inl rfl) (Or.inr rfl)))) (fun _ _ _ _ _ => (L3.pcan c_product (hr.mono (by decide)) (L3.pac (pv 7) (L3.pac (pv 8) pa_nil)))))))))), ?_⟩
    have nt : (Sd21Neutral.ints t).length = 4096 := by rw [Mx.ints_len, ht]
    walk_at "rd"
    rw [(texel_at ht u v).1]
    refine ⟨_, rfl, texel_lt hb u v, fun l hl2 => ?_⟩
    generalize Sd21.texel t u v = x at k
    have s1 : Same H (upd H l (.lst ((Px.of x).l.map V.int))) := Same.put_new hl2
    have qa := s1.seq hl
    refine ⟨_, rfl, _, rfl, a, l, _, _, rfl, qa, SqL.of upd_same, fun D hD => ?_⟩
    refine lcm_zip (K := K) (fun i y _ => y = .int ((c.mul (Px.of x)).l.getD i 0)) hD qa (SqL.of upd_same) rfl (by show 4 ≤ sizeLine; decide) (fun _ _ _ _ h _ => h) (fun i y z H3 T Kt hy hz s3 hT dl kt => ?_) (fun H3 ys s3 hD3 hlen hY => ?_)
    · obtain ⟨p1, p2, rfl, rfl, b1, b2, e, _⟩ := px_zip ok (Px.of_ok x) hy hz
      refine ⟨T, _, rfl, SqT.of hT, rfl, _, _, rfl, _, _, rfl, rfl, rfl, _, rfl, _, rfl, p1, p2, rfl, b1, b2, ?_⟩
      exact kt _ _ (Same.refl _) (by rw [e])
    · exact k H3 D (s1.trans s3) (by rw [hD3, four_by hlen hY])
theorem sc_mixed : FnScope ["color", "old", "cover", "rest", "new", "x", "y"] ["color", "old"] (defScope s_mixed) := ⟨rfl, rfl, rfl, by decide +kernel, rfl, by decide +kernel, by decide +kernel⟩
def spMixed (K : PySem.W.Frag) : Sp := fun vs H Q _ => ∃ (a b : Addr) (c o : Px), vs = [.ref a, .ref b] ∧ LI K H a c.l ∧ LI K H b o.l ∧ c.Ok ∧ o.Ok ∧ ∀ H' l, Same H H' → H' l = some (.lst ((c.mix o).l.map V.int)) → Q (.ref l) H'
theorem ok_mixed {f : Addr} {fd : FuncData} (F : Fun K "mixed" "mixed" s_mixed f fd) (m_zip : mg "zip" = none) (c_product : Can P w K mg base 1 "product" ["x", "y"] spProduct) : FnOk P w K mg base CX0 2 f fd ["color", "old"] (spMixed K) := by
  refine F.ok sc_mixed (fun vs H Q E h => ?_) (fun cdv A outer s H vs Q E hr h => ?_)
  · obtain ⟨_, _, _, _, rfl, _⟩ := h
    rfl
  · obtain ⟨a, b, c, o, rfl, ha, hb, ok, ok2, k⟩ := h
    refine ⟨_, (pss_cons (ps_set (i := 2) sc_mixed.nd rfl (Or.inr rfl) (L3.ixL (K := K) (pv 0) pe_int))
      (pss_cons (ps_set (i := 3) sc_mixed.nd rfl (Or.inr rfl) (pe_op op_sub pe_int (pv 2)))
      (pss_cons (ps_set (i := 4) sc_mixed.nd rfl (Or.inl rfl) (pe_lst (L3.pac (L3.ixL (K := K) (pv 0) pe_int) (L3.pac (L3.ixL (K := K) (pv 0) pe_int) (L3.pac (L3.ixL (K := K) (pv 0) pe_int) (L3.pac pe_int pa_nil))))))
      (pss_one (ps_ret (L3.lcval rfl sc_mixed.nd (L3.pizip m_zip (L3.pac (pv 4) (L3.pac (pv 1) pa_nil))) (blkOk_by (own := [("x", 5), ("y", 6)]) rfl) (fun _ _ _ _ _ => (L3.tgt2 (K := K) rfl (pg_name (i := 5) sc_mixed.nd rfl (Or.inl rfl) (Or.inr rfl)) (pg_name (i := 6) sc_mixed.nd rfl (Or.inl rfl) (Or.inr rfl)))) (fun _ _ _ _ _ => (pe_op op_add (L3.pcan c_product (hr.mono (by decide)) (L3.pac (pv 5) (L3.pac (pv 2) pa_nil))) (L3.pcan c_product (hr.mono (by decide)) (L3.pac (pv 6) (L3.pac (pv 3) pa_nil))))))))))), ?_⟩
    have hk := ok.k
    walk_at "rd"
    refine ⟨by show 4 ≤ sizeLine; decide, fun l hl => ?_⟩
    have s1 : Same H (upd H l (.lst ((Px.mk c.r c.g c.b 255).l.map V.int))) := Same.put_new hl
    have qb := s1.seq hb
    refine ⟨_, rfl, _, rfl, l, b, _, _, rfl, SqL.of upd_same, qb, fun D hD => ?_⟩
    refine lcm_zip (K := K) (xs := (Px.mk c.r c.g c.b 255).l.map V.int) (zs := o.l.map V.int) (fun i y _ => y = .int ((c.mix o).l.getD i 0)) hD (SqL.of upd_same) qb rfl (by show 4 ≤ sizeLine; decide) (fun _ _ _ _ h _ => h) (fun i y z H3 T Kt hy hz s3 hT dl kt => ?_) (fun H3 ys s3 hD3 hlen hY => ?_)
    · obtain ⟨p1, p2, rfl, rfl, b1, b2, e, _⟩ := mix_zip ok ok2 hy hz
      have er : (255 : Int) - (c.k : Int) = ((255 - c.k : Nat) : Int) := by omega
      refine ⟨T, _, rfl, SqT.of hT, rfl, _, _, rfl, _, _, rfl, rfl, rfl, _, rfl, _, rfl, p1, c.k, rfl, b1, hk, _, rfl, _, rfl, p2, 255 - c.k, by rw [← er]; rfl, b2, by omega, _, _, rfl, rfl, ?_⟩
      exact kt _ _ (Same.refl _) (by rw [← e])
    · exact k H3 D (s1.trans s3) (by rw [hD3, four_by hlen hY])
end
end Dw


end
section
set_option Elab.async false
set_option linter.all false
set_option maxRecDepth 100000
set_option maxHeartbeats 2000000
namespace Dw
open PySem PySem.Spec PyProof.Rows L2 L3
/-! a number that grows evenly -/
structure Sl where
  s : Int
  c : Int
  r : Int
def Sl.at_ (e : Sl) (i j : Int) : Int := e.s + e.c * i + e.r * j
def Sl.f (e : Sl) : List (Str × V) := [("start", .int e.s), ("by_column", .int e.c), ("by_row", .int e.r)]
/-- E of an edge -/
def eSl (p r : Sd21.Spot) : Sl := ⟨(r.x - p.x) * (8 - p.y) - (r.y - p.y) * (8 - p.x), -16 * (r.y - p.y), 16 * (r.x - p.x)⟩
theorem eSl_at (p r : Sd21.Spot) (i j : Int) : (eSl p r).at_ i j = Sd21.weight p r (16 * i + 8) (16 * j + 8) := by
  unfold eSl Sl.at_ Sd21.weight
  grind
def wSl (a b c : Sl) (x y z : Int) : Sl := ⟨a.s * x + b.s * y + c.s * z, a.c * x + b.c * y + c.c * z, a.r * x + b.r * y + c.r * z⟩
theorem wSl_at (a b c : Sl) (x y z i j : Int) : (wSl a b c x y z).at_ i j = a.at_ i j * x + b.at_ i j * y + c.at_ i j * z := by
  unfold wSl Sl.at_
  grind
/-- a spot as the program's list -/
def sl (s : Sd21.Spot) : List Int := [s.x, s.y, s.z, s.q, s.c.r, s.c.g, s.c.b, s.c.a, s.c.u, s.c.v]
theorem sl_bd {s : Sd21.Spot} (h : Mx.GoodS s) (k : Nat) : Mx.Bd 16777215 ((sl s).getD k 0) := by
  have hx := h.x; have hy := h.y; have hz := h.z; have hq := h.q; have hc := h.c
  unfold Mx.Bd at hx hy
  match k with
  | 0 => exact ⟨by show _ ≤ s.x; omega, by show s.x ≤ _; omega⟩
  | 1 => exact ⟨by show _ ≤ s.y; omega, by show s.y ≤ _; omega⟩
  | 2 => exact ⟨by show _ ≤ s.z; omega, by show s.z ≤ _; omega⟩
  | 3 => exact ⟨by show _ ≤ s.q; omega, by show s.q ≤ _; omega⟩
  | 4 => have q := hc.r; exact ⟨by show _ ≤ s.c.r; omega, by show s.c.r ≤ _; omega⟩
  | 5 => have q := hc.g; exact ⟨by show _ ≤ s.c.g; omega, by show s.c.g ≤ _; omega⟩
  | 6 => have q := hc.b; exact ⟨by show _ ≤ s.c.b; omega, by show s.c.b ≤ _; omega⟩
  | 7 => have q := hc.a; exact ⟨by show _ ≤ s.c.a; omega, by show s.c.a ≤ _; omega⟩
  | 8 => exact hc.u
  | 9 => exact hc.v
  | k + 10 => exact ⟨by show _ ≤ (0 : Int); decide, by show (0 : Int) ≤ _; decide⟩
local macro_rules | `(tactic| walk_at "side") => `(tactic| first
  | assumption
  | omega
  | exact Or.inl ⟨by omega, by omega⟩
  | exact Or.inr ⟨by omega, by omega⟩
  | exact ⟨by omega, by omega⟩
  | exact ⟨by omega, by omega, by omega⟩
  | decide)
local macro_rules | `(tactic| walk_at "rd1") => `(tactic| first
  | refine ⟨_, rfl, ?_⟩
  | refine ⟨_, _, rfl, rfl, ?_⟩
  | refine ⟨_, rfl, rfl, ?_⟩
  | refine L3.fld_ok (by assumption) (by assumption) (by decide) rfl ?_
  | refine ⟨_, _, _, _, rfl, rfl, (by assumption), (by rfl), ?_⟩
  | refine ⟨_, _, _, _, rfl, rfl, (by assumption), at_ints (by walk_at "side") (by walk_at "side"), ?_⟩
  | refine ⟨_, _, rfl, ?_⟩
  | refine And.intro (by walk_at "side") ?_)
local macro_rules | `(tactic| walk_at "rd") => `(tactic| repeat (walk_at "rd1"))
section
variable {P : Program} {w : World} {K : PySem.W.Frag} {mg : Str → Option Value} {base : Heap}
abbrev nSlope : List Str := ["start", "by_column", "by_row"]
theorem sc_Slope_init : FnScope ["self", "start", "by_column", "by_row"] ["self", "start", "by_column", "by_row"] (defScope s_Slope_init) := ⟨rfl, rfl, rfl, by decide +kernel, rfl, by decide +kernel, by decide +kernel⟩
def spSlope (C : Addr) : Sp := fun vs H Q _ => ∃ (p dx : Addr) (e : Sl), vs = [.ref p, .int e.s, .int e.c, .int e.r] ∧ H p = some (.ins C dx []) ∧ ∀ H', InsAt C H' p e.f → (∀ b o, H b = some o → b ≠ p → H' b = some o) → Q .non H'
theorem ok_Slope {f C : Addr} {fd : FuncData} (F : Fun K "__init__" "Slope.__init__" s_Slope_init f fd) (T : Fields K C nSlope) : FnOk P w K mg base CX0 1 f fd ["self", "start", "by_column", "by_row"] (spSlope C) := by
  refine F.ok sc_Slope_init (fun vs H Q E h => ?_) (fun cdv A outer s H vs Q E hr h => ?_)
  · obtain ⟨_, _, _, rfl, _⟩ := h
    rfl
  · obtain ⟨p, dx, e, rfl, hp, k⟩ := h
    refine ⟨_, (pss_cons (ps_fld (pv 0) (pv 1) rfl)
      (pss_cons (ps_fld (pv 0) (pv 2) rfl)
      (pss_one (ps_fld (pv 0) (pv 3) rfl)))), ?_⟩
    refine ⟨_, rfl, _, rfl, p, C, dx, [], rfl, hp, T.cl, T.no _ (by decide), (by show 0 < 1000; decide), ?_⟩
    refine ⟨_, rfl, _, rfl, p, C, dx, _, rfl, upd_same, T.cl, T.no _ (by decide), (by show 1 < 1000; decide), ?_⟩
    refine ⟨_, rfl, _, rfl, p, C, dx, _, rfl, upd_same, T.cl, T.no _ (by decide), (by show 2 < 1000; decide), ?_⟩
    refine k _ ⟨dx, upd_same⟩ fun b o e hb => ?_
    rw [upd_ne hb, upd_ne hb, upd_ne hb]
    exact e
theorem sc_Slope_at : FnScope ["self", "i", "j"] ["self", "i", "j"] (defScope s_Slope_at) := ⟨rfl, rfl, rfl, by decide +kernel, rfl, by decide +kernel, by decide +kernel⟩
def spAt (C : Addr) : Sp := fun vs H Q _ => ∃ (p : Addr) (e : Sl) (i j : Int), vs = [.ref p, .int i, .int j] ∧ InsAt C H p e.f ∧ Mx.Bd 100000 i ∧ Mx.Bd 100000 j ∧ Q (.int (e.at_ i j)) H
theorem ok_at {f C : Addr} {fd : FuncData} (F : Fun K "at" "Slope.at" s_Slope_at f fd) (T_Slope : Fields K C nSlope) : FnOk P w K mg base CX0 1 f fd ["self", "i", "j"] (spAt C) := by
  refine F.ok sc_Slope_at (fun vs H Q E h => ?_) (fun cdv A outer s H vs Q E hr h => ?_)
  · obtain ⟨_, _, _, _, rfl, _⟩ := h
    rfl
  · obtain ⟨p, e, i, j, rfl, hp, bi, bj, k⟩ := h
    unfold Mx.Bd at bi bj
    refine ⟨_, (pss_one (ps_ret (pe_op op_add (pe_op op_add (L3.fldK (K := K) (pv 0)) (pe_op op_mul (L3.fldK (K := K) (pv 0)) (pv 1))) (pe_op op_mul (L3.fldK (K := K) (pv 0)) (pv 2))))), ?_⟩
    walk_at "rd"
    exact k
theorem sc_edge_slope : FnScope ["first", "second", "across", "down", "start"] ["first", "second"] (defScope s_edge_slope) := ⟨rfl, rfl, rfl, by decide +kernel, rfl, by decide +kernel, by decide +kernel⟩
def spEdge (K : PySem.W.Frag) (C : Addr) : Sp := fun vs H Q _ => ∃ (a b : Addr) (p r : Sd21.Spot), vs = [.ref a, .ref b] ∧ LI K H a (sl p) ∧ LI K H b (sl r) ∧ Mx.GoodS p ∧ Mx.GoodS r ∧ ∀ H' x, Same H H' → InsAt C H' x (eSl p r).f → Q (.ref x) H'
theorem ok_edge {f C : Addr} {fd : FuncData} (F : Fun K "edge_slope" "edge_slope" s_edge_slope f fd) (m_MIDDLE : Num mg "MIDDLE" 8) (m_PIXEL : Num mg "PIXEL" 16) (c_Slope : Makes P w K mg base 1 "Slope" C ["self", "start", "by_column", "by_row"] (spSlope C)) :
    FnOk P w K mg base CX0 3 f fd ["first", "second"] (spEdge K C) := by
  refine F.ok sc_edge_slope (fun vs H Q E h => ?_) (fun cdv A outer s H vs Q E hr h => ?_)
  · obtain ⟨_, _, _, _, rfl, _⟩ := h
    rfl
  · obtain ⟨a, b, p, r, rfl, ha, hb, gp, gr, k⟩ := h
    have x1 := gp.x.1; have x2 := gp.x.2; have y1 := gp.y.1; have y2 := gp.y.2; have z1 := gr.x.1; have z2 := gr.x.2; have u1 := gr.y.1; have u2 := gr.y.2
    refine ⟨_, (pss_cons (ps_set (i := 2) sc_edge_slope.nd rfl (Or.inl rfl) (pe_op op_sub (L3.ixL (K := K) (pv 1) pe_int) (L3.ixL (K := K) (pv 0) pe_int)))
      (pss_cons (ps_set (i := 3) sc_edge_slope.nd rfl (Or.inl rfl) (pe_op op_sub (L3.ixL (K := K) (pv 1) pe_int) (L3.ixL (K := K) (pv 0) pe_int)))
      (pss_cons (ps_set (i := 4) sc_edge_slope.nd rfl (Or.inl rfl) (pe_op op_sub (pe_op op_mul (pv 2) (pe_op op_sub (L3.pnum m_MIDDLE) (L3.ixL (K := K) (pv 0) pe_int))) (pe_op op_mul (pv 3) (pe_op op_sub (L3.pnum m_MIDDLE) (L3.ixL (K := K) (pv 0) pe_int)))))
      (pss_one (ps_ret (L3.pmake c_Slope (hr.mono (by decide)) (L3.pac (pv 4) (L3.pac (pe_op op_mul (pe_un un_neg (L3.pnum m_PIXEL)) (pv 3)) (L3.pac (pe_op op_mul (L3.pnum m_PIXEL) (pv 2)) pa_nil))))))))), ?_⟩
    walk_at "rd"
    intro x dx nx ndx nex
    refine ⟨x, dx, eSl p r, rfl, upd_same, fun H' hI keep => ⟨rfl, ?_⟩⟩
    exact k H' x (Same.made nx ndx keep) hI
/-- the slopes a, b, c stand in the list at l -/
structure Sls (K : PySem.W.Frag) (C : Addr) (H : Hp) (l : Addr) (a b c : Sl) : Prop where
  ex : ∃ x y z : Addr, SqL K H l [.ref x, .ref y, .ref z] ∧ InsAt C H x a.f ∧ InsAt C H y b.f ∧ InsAt C H z c.f
theorem Sls.same {C : Addr} {H H' : Hp} {l : Addr} {a b c : Sl} (h : Sls K C H l a b c) (e : Same H H') : Sls K C H' l a b c := let ⟨x, y, z, q, q1, q2, q3⟩ := h.ex; ⟨x, y, z, e.seq q, q1.same e, q2.same e, q3.same e⟩
theorem sum3 (x y z : Int) : ([x, y, z] : List Int).sum = x + y + z := by
  simp only [List.sum_cons, List.sum_nil]
  omega
theorem three_by {ys : List V} {x y z : V} (hl : ys.length = 3) (h : ∀ (i : Nat) (v : V), ys[i]? = some v → v = ([x, y, z] : List V).getD i .non) : ys = [x, y, z] := by
  rw [items_by hl h]
  rfl
theorem sc_weighted : FnScope ["weights", "factors", "pairs", "start", "by_column", "by_row", "weight", "factor"] ["weights", "factors"] (defScope s_weighted) := ⟨rfl, rfl, rfl, by decide +kernel, rfl, by decide +kernel, by decide +kernel⟩
def spWeighted (K : PySem.W.Frag) (C : Addr) : Sp := fun vs H Q _ => ∃ (l m : Addr) (a b c : Sl) (x y z : Int), vs = [.ref l, .ref m] ∧ Sls K C H l a b c ∧ LI K H m [x, y, z] ∧ Mx.Bd 1099511627776 x ∧ Mx.Bd 1099511627776 y ∧ Mx.Bd 1099511627776 z ∧
  ∀ H' p, Same H H' → InsAt C H' p (wSl a b c x y z).f → Q (.ref p) H'
theorem ok_weighted {f C : Addr} {fd : FuncData} (F : Fun K "weighted" "weighted" s_weighted f fd) (T_Slope : Fields K C nSlope) (m_list : mg "list" = none) (m_zip : mg "zip" = none) (m_sum : mg "sum" = none)
    (c_Slope : Makes P w K mg base 1 "Slope" C ["self", "start", "by_column", "by_row"] (spSlope C)) : FnOk P w K mg base CX0 3 f fd ["weights", "factors"] (spWeighted K C) := by
  refine F.ok sc_weighted (fun vs H Q E h => ?_) (fun cdv A outer s H vs Q E hr h => ?_)
  · obtain ⟨_, _, _, _, _, _, _, _, rfl, _⟩ := h
    rfl
  · obtain ⟨l, m, a, b, c, x, y, z, rfl, hS, hm, bx, by_, bz, k⟩ := h
    obtain ⟨xa, ya, za, q, qa, qb, qc⟩ := hS.ex
    unfold Mx.Bd at bx by_ bz
    refine ⟨_, (pss_cons (ps_set (i := 2) sc_weighted.nd rfl (Or.inl rfl) (L3.pe_lzip rfl m_list m_zip (L3.pac (pv 0) (L3.pac (pv 1) pa_nil))))
      (pss_cons (ps_set (i := 3) sc_weighted.nd rfl (Or.inl rfl) (L3.pcallB (L3.call_sumL rfl) m_sum rfl (L3.pac (L3.lcval rfl sc_weighted.nd (pi_list (pv 2)) (blkOk_by (own := [("weight", 6), ("factor", 7)]) rfl) (fun _ _ _ _ _ => (L3.tgt2 (K := K) rfl (pg_name (i := 6) sc_weighted.nd rfl (Or.inl rfl) (Or.inr rfl)) (pg_name (i := 7) sc_weighted.nd rfl (Or.inl rfl) (Or.inr rfl)))) (fun _ _ _ _ _ => (pe_op op_mul (L3.fldK (K := K) (pv 6)) (pv 7)))) pa_nil)))
      (pss_cons (ps_set (i := 4) sc_weighted.nd rfl (Or.inl rfl) (L3.pcallB (L3.call_sumL rfl) m_sum rfl (L3.pac (L3.lcval rfl sc_weighted.nd (pi_list (pv 2)) (blkOk_by (own := [("weight", 6), ("factor", 7)]) rfl) (fun _ _ _ _ _ => (L3.tgt2 (K := K) rfl (pg_name (i := 6) sc_weighted.nd rfl (Or.inl rfl) (Or.inr rfl)) (pg_name (i := 7) sc_weighted.nd rfl (Or.inl rfl) (Or.inr rfl)))) (fun _ _ _ _ _ => (pe_op op_mul (L3.fldK (K := K) (pv 6)) (pv 7)))) pa_nil)))
      (pss_cons (ps_set (i := 5) sc_weighted.nd rfl (Or.inl rfl) (L3.pcallB (L3.call_sumL rfl) m_sum rfl (L3.pac (L3.lcval rfl sc_weighted.nd (pi_list (pv 2)) (blkOk_by (own := [("weight", 6), ("factor", 7)]) rfl) (fun _ _ _ _ _ => (L3.tgt2 (K := K) rfl (pg_name (i := 6) sc_weighted.nd rfl (Or.inl rfl) (Or.inr rfl)) (pg_name (i := 7) sc_weighted.nd rfl (Or.inl rfl) (Or.inr rfl)))) (fun _ _ _ _ _ => (pe_op op_mul (L3.fldK (K := K) (pv 6)) (pv 7)))) pa_nil)))
      (pss_one (ps_ret (L3.pmake c_Slope (hr.mono (by decide)) (L3.pac (pv 3) (L3.pac (pv 4) (L3.pac (pv 5) pa_nil)))))))))), ?_⟩
    refine ⟨_, rfl, _, rfl, l, m, _, _, rfl, q, hm, rfl, fun H2 lp ts s2 hlp hts hlen prs => ?_⟩
    have pair : ∀ (i : Nat) (v : V), (ts.map V.ref)[i]? = some v → ∃ (t : Addr) (ad : Addr) (e : Sl) (n : Int), v = .ref t ∧ H2 t = some (.tup [.ref ad, .int n]) ∧ InsAt C H2 ad e.f ∧ Mx.Bd 1099511627776 n ∧ e = ([a, b, c] : List Sl).getD i a ∧ n = ([x, y, z] : List Int).getD i 0 := fun i v hv => by
      rw [List.getElem?_map] at hv
      cases et : ts[i]? with
      | none => rw [et] at hv; cases hv
      | some t =>
        rw [et] at hv
        cases hv
        obtain ⟨u1, u2, e1, e2, e3⟩ := prs i t et
        match i, e1, e2 with
        | 0, e1, e2 => cases e1; cases e2; exact ⟨t, xa, a, x, rfl, e3, qa.same s2, bx, rfl, rfl⟩
        | 1, e1, e2 => cases e1; cases e2; exact ⟨t, ya, b, y, rfl, e3, qb.same s2, by_, rfl, rfl⟩
        | 2, e1, e2 => cases e1; cases e2; exact ⟨t, za, c, z, rfl, e3, qc.same s2, bz, rfl, rfl⟩
        | i + 3, e1, _ => simp at e1
    have len3 : (ts.map V.ref).length = 3 := by rw [List.length_map, hlen]; rfl
    refine ⟨_, rfl, lp, rfl, ⟨_, SqL.of hts⟩, fun D2 hD2 => ?_⟩
    refine lcm_list (K := K) (fun i v _ => v = .int ((([a, b, c] : List Sl).getD i a).s * ([x, y, z] : List Int).getD i 0)) hD2 (SqL.of hts) (by rw [len3]; decide) (fun _ _ _ _ h _ => h) (fun i v HH Kt hv ss dl kt => ?_) (fun H3 ys s3 hL hl3 hY => ?_)
    · obtain ⟨t, ad, e, n, rfl, ht, hi, hb, he, hn⟩ := pair i v hv
      have hi3 := hi.same ss
      unfold Mx.Bd at hb
      refine ⟨t, _, rfl, SqT.of (ss _ _ ht), rfl, _, _, rfl, _, _, rfl, rfl, rfl, ?_⟩
      walk_at "rd"
      exact kt _ _ (Same.refl _) (by rw [he, hn])
    have e3 := three_by (x := .int (a.s * x)) (y := .int (b.s * y)) (z := .int (c.s * z)) (hl3.trans len3) fun i v hv => by
      rw [hY i v hv]
      match i with
      | 0 => rfl
      | 1 => rfl
      | 2 => rfl
      | i + 3 => exact absurd (List.getElem?_eq_some_iff.mp hv).1 (by rw [hl3, len3]; omega)
    subst e3
    have l3 : LI K H3 D2 [a.s * x, b.s * y, c.s * z] := SqL.of hL
    clear hY hl3 hL
    refine ⟨D2, _, rfl, l3, ?_⟩
    rw [sum3]
    refine ⟨_, rfl, lp, rfl, ⟨_, SqL.of (s3 _ _ hts)⟩, fun D3 hD3 => ?_⟩
    refine lcm_list (K := K) (fun i v _ => v = .int ((([a, b, c] : List Sl).getD i a).c * ([x, y, z] : List Int).getD i 0)) hD3 (SqL.of (s3 _ _ hts)) (by rw [len3]; decide) (fun _ _ _ _ h _ => h) (fun i v HH Kt hv ss dl kt => ?_) (fun H4 ys s4 hL hl3 hY => ?_)
    · obtain ⟨t, ad, e, n, rfl, ht, hi, hb, he, hn⟩ := pair i v hv
      have hi3 := hi.same (s3.trans ss)
      unfold Mx.Bd at hb
      refine ⟨t, _, rfl, SqT.of ((s3.trans ss) _ _ ht), rfl, _, _, rfl, _, _, rfl, rfl, rfl, ?_⟩
      walk_at "rd"
      exact kt _ _ (Same.refl _) (by rw [he, hn])
    have e3 := three_by (x := .int (a.c * x)) (y := .int (b.c * y)) (z := .int (c.c * z)) (hl3.trans len3) fun i v hv => by
      rw [hY i v hv]
      match i with
      | 0 => rfl
      | 1 => rfl
      | 2 => rfl
      | i + 3 => exact absurd (List.getElem?_eq_some_iff.mp hv).1 (by rw [hl3, len3]; omega)
    subst e3
    have l4 : LI K H4 D3 [a.c * x, b.c * y, c.c * z] := SqL.of hL
    clear hY hl3 hL
    refine ⟨D3, _, rfl, l4, ?_⟩
    rw [sum3]
    have s24 := s3.trans s4
    refine ⟨_, rfl, lp, rfl, ⟨_, SqL.of (s24 _ _ hts)⟩, fun D4 hD4 => ?_⟩
    refine lcm_list (K := K) (fun i v _ => v = .int ((([a, b, c] : List Sl).getD i a).r * ([x, y, z] : List Int).getD i 0)) hD4 (SqL.of (s24 _ _ hts)) (by rw [len3]; decide) (fun _ _ _ _ h _ => h) (fun i v HH Kt hv ss dl kt => ?_) (fun H5 ys s5 hL hl3 hY => ?_)
    · obtain ⟨t, ad, e, n, rfl, ht, hi, hb, he, hn⟩ := pair i v hv
      have hi3 := hi.same (s24.trans ss)
      unfold Mx.Bd at hb
      refine ⟨t, _, rfl, SqT.of ((s24.trans ss) _ _ ht), rfl, _, _, rfl, _, _, rfl, rfl, rfl, ?_⟩
      walk_at "rd"
      exact kt _ _ (Same.refl _) (by rw [he, hn])
    have e3 := three_by (x := .int (a.r * x)) (y := .int (b.r * y)) (z := .int (c.r * z)) (hl3.trans len3) fun i v hv => by
      rw [hY i v hv]
      match i with
      | 0 => rfl
      | 1 => rfl
      | 2 => rfl
      | i + 3 => exact absurd (List.getElem?_eq_some_iff.mp hv).1 (by rw [hl3, len3]; omega)
    subst e3
    have l5 : LI K H5 D4 [a.r * x, b.r * y, c.r * z] := SqL.of hL
    clear hY hl3 hL
    refine ⟨D4, _, rfl, l5, ?_⟩
    rw [sum3]
    have s25 := s24.trans s5
    walk_at "rd"
    intro px dx nx ndx nex
    refine ⟨px, dx, wSl a b c x y z, rfl, upd_same, fun H' hI keep => ⟨rfl, ?_⟩⟩
    exact k H' px (Same.trans (Same.trans s2 s25) (Same.made nx ndx keep)) hI
/-- the spots A, B, C stand in the list at t -/
structure Tri (K : PySem.W.Frag) (H : Hp) (t : Addr) (A B C : Sd21.Spot) : Prop where
  ex : ∃ x y z : Addr, SqL K H t [.ref x, .ref y, .ref z] ∧ LI K H x (sl A) ∧ LI K H y (sl B) ∧ LI K H z (sl C)
theorem Tri.same {H H' : Hp} {t : Addr} {A B C : Sd21.Spot} (h : Tri K H t A B C) (e : Same H H') : Tri K H' t A B C := let ⟨x, y, z, q, q1, q2, q3⟩ := h.ex; ⟨x, y, z, e.seq q, e.seq q1, e.seq q2, e.seq q3⟩
theorem q_bd {S : Sd21.Spot} (g : Mx.GoodS S) (k : Nat) : Mx.Bd 1099511627776 (S.q * (sl S).getD k 0) := by
  have b1 : Mx.Bd 65536 S.q := ⟨by have := g.q; omega, g.q.2⟩
  exact (b1.mul (sl_bd g k)).mono (by decide)
theorem sl_len (s : Sd21.Spot) : (sl s).length = 10 := rfl
theorem sc_shared : FnScope ["weights", "triangle", "place", "corner"] ["weights", "triangle", "place"] (defScope s_shared) := ⟨rfl, rfl, rfl, by decide +kernel, rfl, by decide +kernel, by decide +kernel⟩
def spShared (K : PySem.W.Frag) (C : Addr) : Sp := fun vs H Q _ => ∃ (l t : Addr) (k : Nat) (a b c : Sl) (A B D : Sd21.Spot), vs = [.ref l, .ref t, .int k] ∧ k < 10 ∧ Sls K C H l a b c ∧ Tri K H t A B D ∧ Mx.GoodS A ∧ Mx.GoodS B ∧ Mx.GoodS D ∧
  ∀ H' p, Same H H' → InsAt C H' p (wSl a b c (A.q * (sl A).getD k 0) (B.q * (sl B).getD k 0) (D.q * (sl D).getD k 0)).f → Q (.ref p) H'
theorem ok_shared {f C : Addr} {fd : FuncData} (F : Fun K "shared" "shared" s_shared f fd) (c_weighted : Can P w K mg base 3 "weighted" ["weights", "factors"] (spWeighted K C)) : FnOk P w K mg base CX0 4 f fd ["weights", "triangle", "place"] (spShared K C) := by
  refine F.ok sc_shared (fun vs H Q E h => ?_) (fun cdv A outer s H vs Q E hr h => ?_)
  · obtain ⟨_, _, _, _, _, _, _, _, _, rfl, _⟩ := h
    rfl
  · obtain ⟨l, t, kk, a, b, c, SA, SB, SD, rfl, hk, hS, hT, gA, gB, gD, k⟩ := h
    obtain ⟨x, y, z, q, qx, qy, qz⟩ := hT.ex
    refine ⟨_, (pss_one (ps_ret (L3.pcan c_weighted (hr.mono (by decide)) (L3.pac (pv 0) (L3.pac (L3.lcval rfl sc_shared.nd (pi_list (pv 1)) (blkOk_by (own := [("corner", 3)]) rfl) (fun _ _ _ _ _ => (pg_name (i := 3) sc_shared.nd rfl (Or.inl rfl) (Or.inr rfl))) (fun _ _ _ _ _ => (pe_op op_mul (L3.ixL (K := K) (pv 3) pe_int) (L3.ixL (K := K) (pv 3) (pv 2))))) pa_nil))))), ?_⟩
    refine ⟨_, rfl, _, rfl, t, rfl, ⟨_, q⟩, fun D hD => ?_⟩
    refine lcm_list (K := K) (fun i v _ => v = .int ((([SA, SB, SD] : List Sd21.Spot).getD i SA).q * (sl (([SA, SB, SD] : List Sd21.Spot).getD i SA)).getD kk 0)) hD q (by show 3 ≤ sizeLine; decide) (fun _ _ _ _ h _ => h) (fun i v HH Kt hv ss dl kt => ?_) (fun H2 ys s2 hL hl3 hY => ?_)
    · obtain ⟨ad, S, rfl, hi, hg, he⟩ : ∃ (ad : Addr) (S : Sd21.Spot), v = .ref ad ∧ LI K H ad (sl S) ∧ Mx.GoodS S ∧ S = ([SA, SB, SD] : List Sd21.Spot).getD i SA := by
        match i, hv with
        | 0, hv => cases hv; exact ⟨x, SA, rfl, qx, gA, rfl⟩
        | 1, hv => cases hv; exact ⟨y, SB, rfl, qy, gB, rfl⟩
        | 2, hv => cases hv; exact ⟨z, SD, rfl, qz, gD, rfl⟩
        | i + 3, hv => simp at hv
      have hi3 := ss.seq hi
      have gq := hg.q
      have len := sl_len S
      refine ⟨rfl, ?_⟩
      walk_at "rd"
      refine kt _ _ (Same.refl _) ?_
      rw [← he]
      rfl
    have e3 := three_by (x := .int (SA.q * (sl SA).getD kk 0)) (y := .int (SB.q * (sl SB).getD kk 0)) (z := .int (SD.q * (sl SD).getD kk 0)) hl3 fun i v hv => by
      rw [hY i v hv]
      match i with
      | 0 => rfl
      | 1 => rfl
      | 2 => rfl
      | i + 3 => exact absurd (List.getElem?_eq_some_iff.mp hv).1 (by rw [hl3]; simp)
    subst e3
    exact ⟨l, D, a, b, c, _, _, _, rfl, hS.same s2, SqL.of hL, q_bd gA kk, q_bd gB kk, q_bd gD kk, fun H' p s3 hp => k H' p (s2.trans s3) hp⟩
theorem sc_least_inside : FnScope ["edge", "goes_up", "is_level_and_right"] ["edge"] (defScope s_least_inside) := ⟨rfl, rfl, rfl, by decide +kernel, rfl, by decide +kernel, by decide +kernel⟩
/-- the least E that is the triangle's -/
def least (e : Sl) : Int := if 0 < e.c ∨ (e.c = 0 ∧ 0 < e.r) then 0 else 1
def spLeast (C : Addr) : Sp := fun vs H Q _ => ∃ (p : Addr) (e : Sl), vs = [.ref p] ∧ InsAt C H p e.f ∧ Q (.int (least e)) H
theorem ok_least {f C : Addr} {fd : FuncData} (F : Fun K "least_inside" "least_inside" s_least_inside f fd) (T_Slope : Fields K C nSlope) : FnOk P w K mg base CX0 1 f fd ["edge"] (spLeast C) := by
  refine F.ok sc_least_inside (fun vs H Q E h => ?_) (fun cdv A outer s H vs Q E hr h => ?_)
  · obtain ⟨_, _, rfl, _⟩ := h
    rfl
  · obtain ⟨p, e, rfl, hp, k⟩ := h
    refine ⟨_, (pss_cons (ps_set (i := 1) sc_least_inside.nd rfl (Or.inl rfl) (pe_cmpR op_gt (L3.fldK (K := K) (pv 0)) pe_int (nomark _)))
      (pss_cons (ps_set (i := 2) sc_least_inside.nd rfl (Or.inl rfl) (pe_and (pe_cmpR L3.op_eqI (L3.fldK (K := K) (pv 0)) pe_int (nomark _)) (pe_one (pe_cmpR op_gt (L3.fldK (K := K) (pv 0)) pe_int (nomark _)))))
      (pss_one (ps_ret (pe_ifExp (PW.pt (pw_or (pt_val (pv 1)) (pw_or1 (pt_val (pv 2))))) pe_int pe_int))))), ?_⟩
    walk_at "rd"
    have z0 : (0 < e.c ∨ (e.c = 0 ∧ 0 < e.r)) → Q (.int 0) H := fun z => by
      have e0 : least e = 0 := if_pos z
      rw [e0] at k
      exact k
    have z1 : ¬ (0 < e.c ∨ (e.c = 0 ∧ 0 < e.r)) → Q (.int 1) H := fun z => by
      have e0 : least e = 1 := if_neg z
      rw [e0] at k
      exact k
    refine iteB (fun h1 => ?_) (fun h1 => ?_)
    · have h1 := of_decide_eq_true h1
      walk_at "rd"
      refine iteB (fun h2 => ?_) (fun h2 => ?_)
      · exact iteT (z0 (.inl (of_decide_eq_true h2)))
      · walk_at "rd"
        refine iteB (fun h3 => ?_) (fun h3 => ?_)
        · exact z0 (.inr ⟨h1, of_decide_eq_true h3⟩)
        · have h2 := of_decide_eq_false h2
          have h3 := of_decide_eq_false h3
          exact z1 (by omega)
    · have h1 := of_decide_eq_false h1
      walk_at "rd"
      refine iteB (fun h2 => ?_) (fun h2 => ?_)
      · exact iteT (z0 (.inl (of_decide_eq_true h2)))
      · have h2 := of_decide_eq_false h2
        walk_at "rd"
        exact iteF (z1 (by omega))
/-! what a triangle's pixels are reckoned from -/
abbrev nShade : List Str := ["area", "depth", "share", "looks"]
def lookSl (a b c : Sl) (A B D : Sd21.Spot) (k : Nat) : Sl := wSl a b c (A.q * (sl A).getD (k + 4) 0) (B.q * (sl B).getD (k + 4) 0) (D.q * (sl D).getD (k + 4) 0)
structure ShadeAt (K : PySem.W.Frag) (CH CS : Addr) (H : Hp) (p lk : Addr) (N : Int) (a b c : Sl) (A B D : Sd21.Spot) : Prop where
  ex : ∃ (d s : Addr) (ls : List Addr), InsAt CH H p [("area", .int N), ("depth", .ref d), ("share", .ref s), ("looks", .ref lk)] ∧ InsAt CS H d (wSl a b c A.z B.z D.z).f ∧ InsAt CS H s (wSl a b c A.q B.q D.q).f ∧
    SqL K H lk (ls.map V.ref) ∧ ls.length = 6 ∧ ∀ k x, ls[k]? = some x → InsAt CS H x (lookSl a b c A B D k).f
theorem slope_ne {C C' : Addr} {H : Hp} {x p dx : Addr} {e : Sl} {v : V} {r : List (Str × V)} (h : InsAt C H x e.f) (hp : H p = some (.ins C' dx (("area", v) :: r))) : x ≠ p := by
  obtain ⟨d, q⟩ := h
  refine ne_of q hp ?_
  intro z
  injection z with _ _ z
  injection z with z _
  injection z with z _
  exact absurd z (by decide)
theorem _root_.L3.InsAt.put {C : Addr} {H : Hp} {x p : Addr} {o : HO} {fs : List (Str × V)} (h : InsAt C H x fs) (n : x ≠ p) : InsAt C (upd H p o) x fs := by
  obtain ⟨d, q⟩ := h
  exact ⟨d, by rw [upd_ne n]; exact q⟩
theorem Same.putOff {H0 H : Hp} {p : Addr} {o : HO} (e : Same H0 H) (n : H0 p = none) : Same H0 (upd H p o) := fun b u q => by
  rw [upd_ne (ne_of_none q n)]
  exact e b u q
/-- one number of each corner, as a list -/
theorem tri_items {i : Nat} {v : V} {x y z : Addr} {H : Hp} {A B D : Sd21.Spot} (qx : LI K H x (sl A)) (qy : LI K H y (sl B)) (qz : LI K H z (sl D)) (hv : ([.ref x, .ref y, .ref z] : List V)[i]? = some v) :
    ∃ (ad : Addr) (S : Sd21.Spot), v = .ref ad ∧ LI K H ad (sl S) ∧ S = ([A, B, D] : List Sd21.Spot).getD i A := by
  match i, hv with
  | 0, hv => cases hv; exact ⟨x, A, rfl, qx, rfl⟩
  | 1, hv => cases hv; exact ⟨y, B, rfl, qy, rfl⟩
  | 2, hv => cases hv; exact ⟨z, D, rfl, qz, rfl⟩
  | i + 3, hv => simp at hv
theorem tri_three {ys : List V} {A B D : Sd21.Spot} {g : Sd21.Spot → Int} (hl : ys.length = 3) (hY : ∀ (i : Nat) (v : V), ys[i]? = some v → v = .int (g (([A, B, D] : List Sd21.Spot).getD i A))) : ys = [.int (g A), .int (g B), .int (g D)] :=
  three_by hl fun i v hv => by
    rw [hY i v hv]
    match i with
    | 0 => rfl
    | 1 => rfl
    | 2 => rfl
    | i + 3 => exact absurd (List.getElem?_eq_some_iff.mp hv).1 (by rw [hl]; omega)
theorem sc_Shade_init : FnScope ["self", "triangle", "weights", "area", "corner", "place"] ["self", "triangle", "weights", "area"] (defScope s_Shade_init) := ⟨rfl, rfl, rfl, by decide +kernel, rfl, by decide +kernel, by decide +kernel⟩
def spShade (K : PySem.W.Frag) (CH CS : Addr) : Sp := fun vs H Q _ => ∃ (p dx t l : Addr) (N : Int) (a b c : Sl) (A B D : Sd21.Spot) (H0 : Hp), vs = [.ref p, .ref t, .ref l, .int N] ∧ H p = some (.ins CH dx []) ∧ Same H0 H ∧ H0 p = none ∧ Sls K CS H0 l a b c ∧ Tri K H0 t A B D ∧
  Mx.GoodS A ∧ Mx.GoodS B ∧ Mx.GoodS D ∧ ∀ H' lk, ShadeAt K CH CS H' p lk N a b c A B D → H0 lk = none → Same H0 H' → Q .non H'
theorem ok_Shade {f CH CS : Addr} {fd : FuncData} (F : Fun K "__init__" "Shade.__init__" s_Shade_init f fd) (T_Shade : Fields K CH nShade) (m_range : mg "range" = none)
    (c_weighted : Can P w K mg base 3 "weighted" ["weights", "factors"] (spWeighted K CS)) (c_shared : Can P w K mg base 4 "shared" ["weights", "triangle", "place"] (spShared K CS)) : FnOk P w K mg base CX0 5 f fd ["self", "triangle", "weights", "area"] (spShade K CH CS) := by
  refine F.ok sc_Shade_init (fun vs H Q E h => ?_) (fun cdv A outer s H vs Q E hr h => ?_)
  · obtain ⟨_, _, _, _, _, _, _, _, _, _, _, _, rfl, _⟩ := h
    rfl
  · obtain ⟨p, dx, t, l, N, a, b, c, SA, SB, SD, H0, rfl, hp, s0, n0, hS, hT, gA, gB, gD, k⟩ := h
    obtain ⟨x, y, z, q, qx, qy, qz⟩ := hT.ex
    refine ⟨_, (pss_cons (ps_fld (pv 0) (pv 3) rfl)
      (pss_cons (ps_fld (pv 0) (L3.pcan c_weighted (hr.mono (by decide)) (L3.pac (pv 2) (L3.pac (L3.lcval rfl sc_Shade_init.nd (pi_list (pv 1)) (blkOk_by (own := [("corner", 4)]) rfl) (fun _ _ _ _ _ => (pg_name (i := 4) sc_Shade_init.nd rfl (Or.inl rfl) (Or.inr rfl))) (fun _ _ _ _ _ => (L3.ixL (K := K) (pv 4) pe_int))) pa_nil))) rfl)
      (pss_cons (ps_fld (pv 0) (L3.pcan c_weighted (hr.mono (by decide)) (L3.pac (pv 2) (L3.pac (L3.lcval rfl sc_Shade_init.nd (pi_list (pv 1)) (blkOk_by (own := [("corner", 4)]) rfl) (fun _ _ _ _ _ => (pg_name (i := 4) sc_Shade_init.nd rfl (Or.inl rfl) (Or.inr rfl))) (fun _ _ _ _ _ => (L3.ixL (K := K) (pv 4) pe_int))) pa_nil))) rfl)
      (pss_one (ps_fld (pv 0) (L3.lcval rfl sc_Shade_init.nd (pi_range2 rfl m_range (L3.pac pe_int (L3.pac pe_int pa_nil))) (blkOk_by (own := [("place", 5)]) rfl) (fun _ _ _ _ _ => (pg_name (i := 5) sc_Shade_init.nd rfl (Or.inl rfl) (Or.inr rfl))) (fun _ _ _ _ _ => (L3.pcan c_shared (hr.mono (by decide)) (L3.pac (pv 2) (L3.pac (pv 1) (L3.pac (pv 5) pa_nil)))))) rfl))))), ?_⟩
    refine ⟨_, rfl, _, rfl, p, CH, dx, [], rfl, hp, T_Shade.cl, T_Shade.no _ (by decide), (by show 0 < 1000; decide), ?_⟩
    have sa : Same H0 (upd H p (.ins CH dx [("area", .int N)])) := Same.putOff s0 n0
    have pa : upd H p (.ins CH dx [("area", .int N)]) p = some (.ins CH dx [("area", .int N)]) := upd_same
    generalize hHa : upd H p (.ins CH dx [("area", .int N)]) = Ha at sa pa
    have hHa' : upd H p (HO.ins CH dx (putF "area" (.int N) [])) = Ha := hHa
    rw [hHa']
    -- depth
    refine ⟨_, rfl, _, rfl, t, rfl, ⟨_, sa.seq q⟩, fun D1 hD1 => ?_⟩
    refine lcm_list (K := K) (fun i v _ => v = .int ((([SA, SB, SD] : List Sd21.Spot).getD i SA).z)) hD1 (sa.seq q) (by show 3 ≤ sizeLine; decide) (fun _ _ _ _ h _ => h) (fun i v HH Kt hv ss dl kt => ?_) (fun Hb ys sb hL hl3 hY => ?_)
    · obtain ⟨ad, S, rfl, hi, he⟩ := tri_items qx qy qz hv
      have hi3 := (sa.trans ss).seq hi
      refine ⟨rfl, ?_⟩
      walk_at "rd"
      exact kt _ _ (Same.refl _) (by rw [← he])
    have e1 := tri_three (g := fun S => S.z) hl3 hY
    subst e1
    clear hY
    have s0b := sa.trans sb
    have bz : ∀ {S : Sd21.Spot}, Mx.GoodS S → Mx.Bd 1099511627776 S.z := fun g => ⟨by have := g.z; omega, by have := g.z; omega⟩
    have bq : ∀ {S : Sd21.Spot}, Mx.GoodS S → Mx.Bd 1099511627776 S.q := fun g => ⟨by have := g.q; omega, by have := g.q; omega⟩
    refine ⟨l, D1, a, b, c, _, _, _, rfl, hS.same s0b, SqL.of hL, bz gA, bz gB, bz gD, fun Hc d sc hd => ?_⟩
    have pc : Hc p = some (.ins CH dx [("area", .int N)]) := sc _ _ (sb _ _ pa)
    refine ⟨_, rfl, p, CH, dx, _, rfl, pc, T_Shade.cl, T_Shade.no _ (by decide), (by show 1 < 1000; decide), ?_⟩
    have s0d : Same H0 (upd Hc p (.ins CH dx [("area", .int N), ("depth", .ref d)])) := Same.putOff (s0b.trans sc) n0
    have pd : upd Hc p (.ins CH dx [("area", .int N), ("depth", .ref d)]) p = some (.ins CH dx [("area", .int N), ("depth", .ref d)]) := upd_same
    have dd : InsAt CS (upd Hc p (.ins CH dx [("area", .int N), ("depth", .ref d)])) d (wSl a b c SA.z SB.z SD.z).f := hd.put (slope_ne hd pc)
    generalize hHd : upd Hc p (.ins CH dx [("area", .int N), ("depth", .ref d)]) = Hd at s0d pd dd
    have hHd' : upd Hc p (HO.ins CH dx (putF "depth" (.ref d) [("area", .int N)])) = Hd := hHd
    rw [hHd']
    -- share
    refine ⟨_, rfl, _, rfl, t, rfl, ⟨_, s0d.seq q⟩, fun D2 hD2 => ?_⟩
    refine lcm_list (K := K) (fun i v _ => v = .int ((([SA, SB, SD] : List Sd21.Spot).getD i SA).q)) hD2 (s0d.seq q) (by show 3 ≤ sizeLine; decide) (fun _ _ _ _ h _ => h) (fun i v HH Kt hv ss dl kt => ?_) (fun He ys se hL2 hl3 hY => ?_)
    · obtain ⟨ad, S, rfl, hi, he⟩ := tri_items qx qy qz hv
      have hi3 := (s0d.trans ss).seq hi
      refine ⟨rfl, ?_⟩
      walk_at "rd"
      exact kt _ _ (Same.refl _) (by rw [← he])
    have e1 := tri_three (g := fun S => S.q) hl3 hY
    subst e1
    clear hY
    have s0e := s0d.trans se
    refine ⟨l, D2, a, b, c, _, _, _, rfl, hS.same s0e, SqL.of hL2, bq gA, bq gB, bq gD, fun Hf sh sf hsh => ?_⟩
    have pf : Hf p = some (.ins CH dx [("area", .int N), ("depth", .ref d)]) := sf _ _ (se _ _ pd)
    refine ⟨_, rfl, p, CH, dx, _, rfl, pf, T_Shade.cl, T_Shade.no _ (by decide), (by show 2 < 1000; decide), ?_⟩
    have s0g : Same H0 (upd Hf p (.ins CH dx [("area", .int N), ("depth", .ref d), ("share", .ref sh)])) := Same.putOff (s0e.trans sf) n0
    have pg : upd Hf p (.ins CH dx [("area", .int N), ("depth", .ref d), ("share", .ref sh)]) p = some (.ins CH dx [("area", .int N), ("depth", .ref d), ("share", .ref sh)]) := upd_same
    have dg : InsAt CS (upd Hf p (.ins CH dx [("area", .int N), ("depth", .ref d), ("share", .ref sh)])) d (wSl a b c SA.z SB.z SD.z).f := ((dd.same se).same sf).put (slope_ne dd pd)
    have eg : InsAt CS (upd Hf p (.ins CH dx [("area", .int N), ("depth", .ref d), ("share", .ref sh)])) sh (wSl a b c SA.q SB.q SD.q).f := hsh.put (slope_ne hsh pf)
    generalize hHg : upd Hf p (.ins CH dx [("area", .int N), ("depth", .ref d), ("share", .ref sh)]) = Hg at s0g pg dg eg
    have hHg' : upd Hf p (HO.ins CH dx (putF "share" (.ref sh) [("area", .int N), ("depth", .ref d)])) = Hg := hHg
    rw [hHg']
    -- looks
    refine ⟨4, 10, rfl, ⟨by decide, by decide, by decide, by decide⟩, fun D3 hD3 => ?_⟩
    refine lcm_range (fun i v H' => ∃ ad : Addr, v = .ref ad ∧ InsAt CS H' ad (lookSl a b c SA SB SD i).f ∧ ad ≠ D3) hD3 (by decide) (fun i v H1 H2 h r => ?_) (fun i HH Kt hi ss dl kt => ?_) (fun Hh ys sh' hL3 hl3 hY => ?_)
    · obtain ⟨ad, e, h, n⟩ := h
      exact ⟨ad, e, h.rest r (by simpa using n), n⟩
    · have hi6 : i < 6 := hi
      refine ⟨rfl, ?_⟩
      walk_at "rd"
      have s1 := s0g.trans ss
      refine ⟨l, t, i + 4, a, b, c, SA, SB, SD, by rw [show (4 : Int) + (i : Int) = ((i + 4 : Nat) : Int) by omega]; rfl, by omega, hS.same s1, hT.same s1, gA, gB, gD, fun H' pp s' hpp => ?_⟩
      refine kt _ _ s' ⟨pp, rfl, hpp, ?_⟩
      obtain ⟨acc, hacc⟩ := dl
      obtain ⟨dq, hq⟩ := hpp
      exact ne_of hq (s' _ _ hacc) (by intro z; cases z)
    have ph : Hh p = some (.ins CH dx [("area", .int N), ("depth", .ref d), ("share", .ref sh)]) := sh' _ _ pg
    refine ⟨_, rfl, p, CH, dx, _, rfl, ph, T_Shade.cl, T_Shade.no _ (by decide), (by show 3 < 1000; decide), ?_⟩
    have ne3 : D3 ≠ p := ne_of hL3 ph (by intro z; cases z)
    obtain ⟨ls, hls⟩ : ∃ ls : List Addr, ys = ls.map V.ref := by
      have all : ∀ v ∈ ys, ∃ ad : Addr, v = .ref ad := fun v hv => by
        obtain ⟨i, hi, rfl⟩ := List.getElem_of_mem hv
        obtain ⟨ad, e, _⟩ := hY i _ (List.getElem?_eq_getElem hi)
        exact ⟨ad, e⟩
      clear hY hL3 hl3
      induction ys with
      | nil => exact ⟨[], rfl⟩
      | cons v ys ih =>
        obtain ⟨ad, rfl⟩ := all v List.mem_cons_self
        obtain ⟨ls, rfl⟩ := ih fun u hu => all u (List.mem_cons_of_mem _ hu)
        exact ⟨ad :: ls, rfl⟩
    subst hls
    rw [List.length_map] at hl3
    refine k _ D3 ⟨d, sh, ls, ⟨dx, upd_same⟩, ?_, ?_, ?_, hl3, fun i x hx => ?_⟩ (s0g.free hD3) (Same.putOff (s0g.trans sh') n0)
    · exact (dg.same sh').put (slope_ne dg pg)
    · exact (eg.same sh').put (slope_ne eg pg)
    · refine SqL.of ?_
      rw [upd_ne ne3]
      exact hL3
    · obtain ⟨ad, e, h, n⟩ := hY i (.ref x) (by rw [List.getElem?_map, hx]; rfl)
      cases e
      exact h.put (slope_ne h ph)
end
end Dw


end
section
set_option Elab.async false
set_option linter.all false
set_option maxRecDepth 100000
set_option maxHeartbeats 2000000
namespace Dw
open PySem PySem.Spec PyProof.Rows L2 L3
/-! spans: which columns of a row are the triangle's -/
def spare (e : Sl) (j : Int) : Int := e.at_ 0 j - least e
def spanL (e : Sl) (j l : Int) : Int := if 0 < e.c then max l (-(spare e j / e.c)) else l
def spanR (e : Sl) (j l r : Int) : Int := if 0 < e.c then r else if e.c < 0 then min r (spare e j / -e.c + 1) else if spare e j < 0 then l else r
theorem span_iff (e : Sl) (j l r i : Int) : (spanL e j l ≤ i ∧ i < spanR e j l r) ↔ (l ≤ i ∧ i < r ∧ least e ≤ e.at_ i j) := by
  have ea : e.at_ i j = spare e j + least e + e.c * i := by
    unfold spare Sl.at_
    grind
  unfold spanL spanR
  by_cases h1 : 0 < e.c
  · rw [if_pos h1, if_pos h1]
    have k : -(spare e j / e.c) ≤ i ↔ 0 ≤ spare e j + e.c * i := by
      have := Int.le_ediv_iff_mul_le (a := -i) (b := spare e j) h1
      have e2 : -i * e.c = -(e.c * i) := by grind
      rw [e2] at this
      omega
    rw [ea]
    omega
  · rw [if_neg h1, if_neg h1]
    by_cases h2 : e.c < 0
    · rw [if_pos h2]
      have k : i < spare e j / -e.c + 1 ↔ 0 ≤ spare e j + e.c * i := by
        have := Int.le_ediv_iff_mul_le (a := i) (b := spare e j) (c := -e.c) (by omega)
        have e2 : i * -e.c = -(e.c * i) := by grind
        rw [e2] at this
        omega
      rw [ea]
      omega
    · rw [if_neg h2]
      have h0 : e.c = 0 := by omega
      rw [ea, h0]
      by_cases h3 : spare e j < 0
      · rw [if_pos h3]
        omega
      · rw [if_neg h3]
        omega
theorem spare_bd {p r : Sd21.Spot} (gp : Mx.GoodS p) (gr : Mx.GoodS r) {j : Nat} (hj : j < 1024) : Mx.Bd 8589934592 (spare (eSl p r) j) := by
  have bj : Mx.Bd 1024 (j : Int) := ⟨by omega, by omega⟩
  have b8 : Mx.Bd 8 (8 : Int) := ⟨by decide, by decide⟩
  have b16 : Mx.Bd 16 (16 : Int) := ⟨by decide, by decide⟩
  have b0 : Mx.Bd 0 (0 : Int) := ⟨by decide, by decide⟩
  have bm : Mx.Bd 16 (-16 : Int) := ⟨by decide, by decide⟩
  have dx := gr.x.sub gp.x
  have dy := gr.y.sub gp.y
  have h := (((dx.mul (b8.sub gp.y)).sub (dy.mul (b8.sub gp.x))).add ((bm.mul dy).mul b0)).add ((b16.mul dx).mul bj)
  have hl : Mx.Bd 1 (least (eSl p r)) := by
    unfold least
    split
    · exact ⟨by decide, by decide⟩
    · exact ⟨by decide, by decide⟩
  exact (h.sub hl).mono (by decide)
theorem span_bd {e : Sl} {j l r : Int} (hl : Mx.Bd 8589934600 l) (hr : Mx.Bd 8589934600 r) (hs : Mx.Bd 8589934592 (spare e j)) : Mx.Bd 8589934600 (spanL e j l) ∧ Mx.Bd 8589934600 (spanR e j l r) := by
  unfold spanL spanR
  by_cases h1 : 0 < e.c
  · have d := hs.div h1
    rw [if_pos h1, if_pos h1]
    unfold Mx.Bd at *
    omega
  · rw [if_neg h1, if_neg h1]
    by_cases h2 : e.c < 0
    · have d := hs.div (show 0 < -e.c by omega)
      rw [if_pos h2]
      unfold Mx.Bd at *
      omega
    · rw [if_neg h2]
      split
      · exact ⟨hl, hl⟩
      · exact ⟨hl, hr⟩
theorem least_edge (p r : Sd21.Spot) : least (eSl p r) = if Sd21.own p r = true then 0 else 1 := by
  unfold least eSl Sd21.own
  by_cases h : (0 < -16 * (r.y - p.y) ∨ -16 * (r.y - p.y) = 0 ∧ 0 < 16 * (r.x - p.x))
  · rw [if_pos h, if_pos (by rw [Bool.or_eq_true, Bool.and_eq_true, beq_iff_eq, decide_eq_true_eq, decide_eq_true_eq]; omega)]
  · rw [if_neg h, if_neg (by rw [Bool.or_eq_true, Bool.and_eq_true, beq_iff_eq, decide_eq_true_eq, decide_eq_true_eq]; omega)]
theorem inside_iff (p r : Sd21.Spot) (i j : Int) : least (eSl p r) ≤ (eSl p r).at_ i j ↔ (decide (0 < Sd21.weight p r (16 * i + 8) (16 * j + 8)) || (Sd21.weight p r (16 * i + 8) (16 * j + 8) == 0 && Sd21.own p r)) = true := by
  rw [least_edge, eSl_at, Bool.or_eq_true, Bool.and_eq_true, decide_eq_true_eq, beq_iff_eq]
  by_cases h : Sd21.own p r = true
  · rw [if_pos h]
    simp only [h, and_true]
    omega
  · rw [if_neg h]
    constructor
    · intro z
      exact .inl (by omega)
    · rintro (z | ⟨_, z⟩)
      · omega
      · exact absurd z h
/-- the pixel is the triangle's -/
def Ins (A B D : Sd21.Spot) (i j : Int) : Prop := least (eSl A B) ≤ (eSl A B).at_ i j ∧ least (eSl B D) ≤ (eSl B D).at_ i j ∧ least (eSl D A) ≤ (eSl D A).at_ i j
theorem weights_iff (A B D : Sd21.Spot) (i j : Nat) : (∃ w, Sd21.weights A B D i j = some w) ↔ Ins A B D i j := by
  unfold Ins
  rw [inside_iff, inside_iff, inside_iff]
  unfold Sd21.weights
  dsimp only
  constructor
  · rintro ⟨w, h⟩
    split at h
    · rename_i k
      rw [Bool.and_eq_true, Bool.and_eq_true] at k
      exact k
    · cases h
  · rintro ⟨h1, h2, h3⟩
    rw [if_pos (by rw [Bool.and_eq_true, Bool.and_eq_true]; exact ⟨h1, h2, h3⟩)]
    exact ⟨_, rfl⟩
theorem weights_none {A B D : Sd21.Spot} {i j : Nat} (h : ¬ Ins A B D i j) : Sd21.weights A B D i j = none := by
  cases e : Sd21.weights A B D i j with
  | none => rfl
  | some w => exact absurd ((weights_iff A B D i j).mp ⟨w, e⟩) h
/-- a pixel of the triangle lies between its highest and its lowest corner -/
theorem ins_rows {A B D : Sd21.Spot} {i j : Nat} {w : Int × Int × Int} (h : Sd21.weights A B D i j = some w) (hn : 0 < Sd21.twice A B D) {lo hi : Int} (l1 : lo ≤ A.y) (l2 : lo ≤ B.y) (l3 : lo ≤ D.y) (h1 : A.y ≤ hi) (h2 : B.y ≤ hi) (h3 : D.y ≤ hi) :
    lo ≤ 16 * (j : Int) + 8 ∧ 16 * (j : Int) + 8 ≤ hi := by
  have I := Mx.weights_in h
  have key : w.1 * A.y + w.2.1 * B.y + w.2.2 * D.y = (16 * (j : Int) + 8) * Sd21.twice A B D := by
    rw [I.ea, I.eb, I.ec]
    unfold Sd21.weight Sd21.twice
    grind
  have s := I.sum
  have a0 := I.na; have b0 := I.nb; have c0 := I.nc
  have p1 := Int.mul_nonneg a0 (show 0 ≤ A.y - lo by omega)
  have p2 := Int.mul_nonneg b0 (show 0 ≤ B.y - lo by omega)
  have p3 := Int.mul_nonneg c0 (show 0 ≤ D.y - lo by omega)
  have q1 := Int.mul_nonneg a0 (show 0 ≤ hi - A.y by omega)
  have q2 := Int.mul_nonneg b0 (show 0 ≤ hi - B.y by omega)
  have q3 := Int.mul_nonneg c0 (show 0 ≤ hi - D.y by omega)
  have lo1 : 0 ≤ (16 * (j : Int) + 8 - lo) * Sd21.twice A B D := by
    have e : (16 * (j : Int) + 8 - lo) * Sd21.twice A B D = w.1 * (A.y - lo) + w.2.1 * (B.y - lo) + w.2.2 * (D.y - lo) := by
      rw [Int.sub_mul, ← key, ← s]
      grind
    rw [e]
    omega
  have hi1 : 0 ≤ (hi - (16 * (j : Int) + 8)) * Sd21.twice A B D := by
    have e : (hi - (16 * (j : Int) + 8)) * Sd21.twice A B D = w.1 * (hi - A.y) + w.2.1 * (hi - B.y) + w.2.2 * (hi - D.y) := by
      rw [Int.sub_mul, ← key, ← s]
      grind
    rw [e]
    omega
  have pos : ∀ z : Int, 0 ≤ z * Sd21.twice A B D → 0 ≤ z := fun z hz => by
    by_cases hz0 : 0 ≤ z
    · exact hz0
    · have := Int.mul_neg_of_neg_of_pos (show z < 0 by omega) hn
      omega
  have := pos _ lo1
  have := pos _ hi1
  omega
/-! a pixel's colour -/
def mC (w : Int × Int × Int) (A B D : Sd21.Spot) (f : Sd21.Corner → Int) : Int := Mx.mean (w.1 * A.q) (w.2.1 * B.q) (w.2.2 * D.q) (f A.c) (f B.c) (f D.c)
def px0 (A B D : Sd21.Spot) (w : Int × Int × Int) : Px := ⟨Mx.eight (mC w A B D Sd21.Corner.r), Mx.eight (mC w A B D Sd21.Corner.g), Mx.eight (mC w A B D Sd21.Corner.b), Mx.eight (mC w A B D Sd21.Corner.a)⟩
theorem px0_ok (A B D : Sd21.Spot) (w : Int × Int × Int) : (px0 A B D w).Ok := ⟨Mx.eight_le _, Mx.eight_le _, Mx.eight_le _, Mx.eight_le _⟩
def pxT (mode : Sd21.Mode) (t : List Nat) (A B D : Sd21.Spot) (w : Int × Int × Int) : Px := if mode.pattern = true then (px0 A B D w).mul (Px.of (Sd21.texel t (mC w A B D Sd21.Corner.u) (mC w A B D Sd21.Corner.v))) else px0 A B D w
theorem pxT_ok (mode : Sd21.Mode) (t : List Nat) (A B D : Sd21.Spot) (w : Int × Int × Int) : (pxT mode t A B D w).Ok := by
  unfold pxT
  split
  · exact Px.mul_ok (px0_ok ..) (Px.of_ok _)
  · exact px0_ok ..
theorem shade_eq (mode : Sd21.Mode) (t : List Nat) (A B D : Sd21.Spot) (w : Int × Int × Int) : Sd21.shade mode t A B D w = (pxT mode t A B D w).pack := by
  unfold pxT Sd21.shade
  by_cases h : mode.pattern = true
  · rw [if_pos h]
    dsimp only
    rw [if_pos h]
    rfl
  · rw [if_neg h]
    dsimp only
    rw [if_neg h]
    rfl
/-- what a look is, place by place -/
def fC (k : Nat) : Sd21.Corner → Int := match k with | 0 => Sd21.Corner.r | 1 => Sd21.Corner.g | 2 => Sd21.Corner.b | 3 => Sd21.Corner.a | 4 => Sd21.Corner.u | _ => Sd21.Corner.v
theorem fC_at (S : Sd21.Spot) {k : Nat} (h : k < 6) : (sl S).getD (k + 4) 0 = fC k S.c := by
  match k, h with
  | 0, _ => rfl
  | 1, _ => rfl
  | 2, _ => rfl
  | 3, _ => rfl
  | 4, _ => rfl
  | 5, _ => rfl
theorem look_at {A B D : Sd21.Spot} {i j : Nat} {w : Int × Int × Int} (I : Mx.InW A B D i j w) {k : Nat} (h : k < 6) :
    (lookSl (eSl B D) (eSl D A) (eSl A B) A B D k).at_ i j / (w.1 * A.q + w.2.1 * B.q + w.2.2 * D.q) = mC w A B D (fC k) := by
  unfold lookSl mC Mx.mean
  rw [wSl_at, eSl_at, eSl_at, eSl_at, ← I.ea, ← I.eb, ← I.ec, fC_at A h, fC_at B h, fC_at D h]
  have e : w.1 * (A.q * fC k A.c) + w.2.1 * (B.q * fC k B.c) + w.2.2 * (D.q * fC k D.c) = w.1 * A.q * fC k A.c + w.2.1 * B.q * fC k B.c + w.2.2 * D.q * fC k D.c := by
    rw [Int.mul_assoc, Int.mul_assoc, Int.mul_assoc]
  rw [e]
theorem share_at {A B D : Sd21.Spot} {i j : Nat} {w : Int × Int × Int} (I : Mx.InW A B D i j w) : (wSl (eSl B D) (eSl D A) (eSl A B) A.q B.q D.q).at_ i j = w.1 * A.q + w.2.1 * B.q + w.2.2 * D.q := by
  rw [wSl_at, eSl_at, eSl_at, eSl_at, ← I.ea, ← I.eb, ← I.ec]
theorem depth_at {A B D : Sd21.Spot} {i j : Nat} {w : Int × Int × Int} (I : Mx.InW A B D i j w) : (wSl (eSl B D) (eSl D A) (eSl A B) A.z B.z D.z).at_ i j / Sd21.twice A B D = Mx.mean w.1 w.2.1 w.2.2 A.z B.z D.z := by
  rw [wSl_at, eSl_at, eSl_at, eSl_at, ← I.ea, ← I.eb, ← I.ec, ← I.sum]
  rfl
theorem share_lt {A B D : Sd21.Spot} {i j : Nat} {w : Int × Int × Int} (I : Mx.InW A B D i j w) (hn : 0 < Sd21.twice A B D) (gA : Mx.GoodS A) (gB : Mx.GoodS B) (gD : Mx.GoodS D) :
    0 < w.1 * A.q + w.2.1 * B.q + w.2.2 * D.q ∧ w.1 * A.q + w.2.1 * B.q + w.2.2 * D.q < 18446744073709551616 := by
  have S := Mx.shares_p I hn gA gB gD
  refine ⟨S.hn, ?_⟩
  have t := (Mx.twice_bd gA gB gD).2
  have s := I.sum
  have a1 := Int.mul_le_mul_of_nonneg_left gA.q.2 I.na
  have b1 := Int.mul_le_mul_of_nonneg_left gB.q.2 I.nb
  have c1 := Int.mul_le_mul_of_nonneg_left gD.q.2 I.nc
  omega
theorem col_in {A B D : Sd21.Spot} {i j : Nat} {w : Int × Int × Int} (I : Mx.InW A B D i j w) (hn : 0 < Sd21.twice A B D) (gA : Mx.GoodS A) (gB : Mx.GoodS B) (gD : Mx.GoodS D) {k : Nat} (h : k < 4) : 0 ≤ mC w A B D (fC k) ∧ mC w A B D (fC k) ≤ 65535 := by
  have S := Mx.shares_p I hn gA gB gD
  refine S.mean (lo := 0) (hi := 65535) ?_ ?_ ?_
  all_goals
    match k, h with
    | 0, _ => first | exact gA.c.r | exact gB.c.r | exact gD.c.r
    | 1, _ => first | exact gA.c.g | exact gB.c.g | exact gD.c.g
    | 2, _ => first | exact gA.c.b | exact gB.c.b | exact gD.c.b
    | 3, _ => first | exact gA.c.a | exact gB.c.a | exact gD.c.a
theorem px0_at {A B D : Sd21.Spot} {i j : Nat} {w : Int × Int × Int} (I : Mx.InW A B D i j w) (hn : 0 < Sd21.twice A B D) (gA : Mx.GoodS A) (gB : Mx.GoodS B) (gD : Mx.GoodS D) {k : Nat} (h : k < 4) : mC w A B D (fC k) / 2 ^ (8 : Int).toNat = (px0 A B D w).l.getD k 0 := by
  have c := col_in I hn gA gB gD h
  have e := Mx.eight_int c
  show mC w A B D (fC k) / 256 = _
  rw [← e]
  match k, h with
  | 0, _ => rfl
  | 1, _ => rfl
  | 2, _ => rfl
  | 3, _ => rfl
local macro_rules | `(tactic| walk_at "side") => `(tactic| first
  | assumption
  | omega
  | exact Or.inl ⟨by omega, by omega⟩
  | exact Or.inr ⟨by omega, by omega⟩
  | exact ⟨by omega, by omega⟩
  | exact ⟨by omega, by omega, by omega⟩
  | decide)
local macro_rules | `(tactic| walk_at "rd1") => `(tactic| first
  | refine ⟨_, rfl, ?_⟩
  | refine ⟨_, _, rfl, rfl, ?_⟩
  | refine ⟨_, rfl, rfl, ?_⟩
  | refine L3.fld_ok (by assumption) (by assumption) (by decide) rfl ?_
  | refine ⟨_, _, _, _, rfl, rfl, (by assumption), (by rfl), ?_⟩
  | refine ⟨_, _, _, _, rfl, rfl, (by assumption), at_ints (by walk_at "side") (by walk_at "side"), ?_⟩
  | refine ⟨_, _, rfl, ?_⟩
  | refine And.intro (by walk_at "side") ?_)
local macro_rules | `(tactic| walk_at "rd") => `(tactic| repeat (walk_at "rd1"))
section
variable {P : Program} {w : World} {K : PySem.W.Frag} {mg : Str → Option Value} {base : Heap}
/-! the canvas -/
abbrev nCanvas : List Str := ["w", "pix", "depth", "pattern", "left", "top", "right", "bottom", "skips_against", "skips_by", "asks_depth", "keeps_depth", "has_pattern", "mixes"]
def cvF (wd : Nat) (ap ad at_ : Addr) (l t r b : Int) (m : Sd21.Mode) : List (Str × V) :=
  [("w", .int wd), ("pix", .ref ap), ("depth", .ref ad), ("pattern", .ref at_), ("left", .int l), ("top", .int t), ("right", .int r), ("bottom", .int b), ("skips_against", .bl (decide (m.side = 1))), ("skips_by", .bl (decide (m.side = 2))),
   ("asks_depth", .bl m.ask), ("keeps_depth", .bl m.keep), ("has_pattern", .bl m.pattern), ("mixes", .bl m.mix)]
/-- the picture p stands at ap (its pixels) and ad (its depths) -/
structure Pic (H : Hp) (ap ad : Addr) (p : Sd21.Picture) : Prop where
  pix : H ap = some (.lst ((Sd21Neutral.ints p.pix).map V.int))
  dep : H ad = some (.lst ((Sd21Neutral.ints p.depth).map V.int))
  ne : ap ≠ ad
theorem Pic.same {H H' : Hp} {ap ad : Addr} {p : Sd21.Picture} (h : Pic H ap ad p) (e : Same H H') : Pic H' ap ad p := ⟨e _ _ h.pix, e _ _ h.dep, h.ne⟩
theorem Pic.ins {H : Hp} {ap ad x C : Addr} {p : Sd21.Picture} {fs : List (Str × V)} (h : Pic H ap ad p) (i : InsAt C H x fs) : x ∉ [ap, ad] := by
  obtain ⟨d, q⟩ := i
  have n1 := ne_of q h.pix (by intro z; cases z)
  have n2 := ne_of q h.dep (by intro z; cases z)
  simp [n1, n2]
/-- the pattern t stands at a, elsewhere than the picture -/
structure PatAt (K : PySem.W.Frag) (H : Hp) (ap ad a : Addr) (t : List Nat) : Prop where
  li : LI K H a (Sd21Neutral.ints t)
  off : a ∉ [ap, ad] ∨ LI K (fun _ => none) a (Sd21Neutral.ints t)
  len : t.length = 4096
  col : ∀ x ∈ t, x < 4294967296
theorem PatAt.rest {H H' : Hp} {ap ad a : Addr} {t : List Nat} (h : PatAt K H ap ad a t) (r : Rest [ap, ad] H H') : PatAt K H' ap ad a t := by
  refine ⟨?_, h.off, h.len, h.col⟩
  rcases h.off with o | o
  · exact r.li o h.li
  · rcases o with (o | ⟨_, o⟩) | o
    · cases o
    · cases o
    · exact .inr o
theorem ShadeAt.rest {CH CS : Addr} {H H' : Hp} {ap ad x lk : Addr} {p : Sd21.Picture} {N : Int} {a b c : Sl} {A B D : Sd21.Spot} (h : ShadeAt K CH CS H x lk N a b c A B D) (hp : Pic H ap ad p) (hl : lk ∉ [ap, ad]) (r : Rest [ap, ad] H H') : ShadeAt K CH CS H' x lk N a b c A B D := by
  obtain ⟨d, s, ls, h1, h2, h3, h4, h5, h6⟩ := h.ex
  exact ⟨d, s, ls, h1.rest r (hp.ins h1), h2.rest r (hp.ins h2), h3.rest r (hp.ins h3), r.li hl h4, h5, fun k y hy => (h6 k y hy).rest r (hp.ins (h6 k y hy))⟩
theorem ShadeAt.same {CH CS : Addr} {H H' : Hp} {x lk : Addr} {N : Int} {a b c : Sl} {A B D : Sd21.Spot} (h : ShadeAt K CH CS H x lk N a b c A B D) (r : Same H H') : ShadeAt K CH CS H' x lk N a b c A B D := by
  obtain ⟨d, s, ls, h1, h2, h3, h4, h5, h6⟩ := h.ex
  exact ⟨d, s, ls, h1.same r, h2.same r, h3.same r, r.seq h4, h5, fun k y hy => (h6 k y hy).same r⟩
theorem sc_row_span : FnScope ["canvas", "edges", "j", "left", "right", "edge", "spare"] ["canvas", "edges", "j"] (defScope s_row_span) := ⟨rfl, rfl, rfl, by decide +kernel, rfl, by decide +kernel, by decide +kernel⟩
def spSpan (K : PySem.W.Frag) (CC CS : Addr) : Sp := fun vs H Q _ => ∃ (cv el : Addr) (j : Nat) (wd : Nat) (ap ad at_ : Addr) (l t r b : Int) (m : Sd21.Mode) (A B D : Sd21.Spot), vs = [.ref cv, .ref el, .int j] ∧ j < 1024 ∧ InsAt CC H cv (cvF wd ap ad at_ l t r b m) ∧ Sls K CS H el (eSl B D) (eSl D A) (eSl A B) ∧
  Mx.GoodS A ∧ Mx.GoodS B ∧ Mx.GoodS D ∧ Mx.Bd 16777216 l ∧ Mx.Bd 16777216 r ∧ ∀ H' x (l' r' : Int), Same H H' → H' x = some (.tup [.int l', .int r']) → Mx.Bd 8589934600 l' → Mx.Bd 8589934600 r' → (∀ i : Int, (l' ≤ i ∧ i < r') ↔ (l ≤ i ∧ i < r ∧ Ins A B D i j)) → Q (.ref x) H'
theorem ok_span {f CC CS : Addr} {fd : FuncData} (F : Fun K "row_span" "row_span" s_row_span f fd) (T_Canvas : Fields K CC nCanvas) (T_Slope : Fields K CS nSlope) (m_max : mg "max" = none) (m_min : mg "min" = none)
    (d_Slope_at : Does P w K mg base 1 CS "at" ["self", "i", "j"] (spAt CS)) (c_least_inside : Can P w K mg base 1 "least_inside" ["edge"] (spLeast CS)) : FnOk P w K mg base CX0 2 f fd ["canvas", "edges", "j"] (spSpan K CC CS) := by
  refine F.ok sc_row_span (fun vs H Q E h => ?_) (fun cdv A outer s H vs Q E hr h => ?_)
  · obtain ⟨_, _, _, _, _, _, _, _, _, _, _, _, _, _, _, rfl, _⟩ := h
    rfl
  · obtain ⟨cv, el, j, wd, ap, ad, at_, l, t, r, b, m, SA, SB, SD, rfl, hj, hC, hS, gA, gB, gD, bl, br, k⟩ := h
    obtain ⟨x, y, z, q, qx, qy, qz⟩ := hS.ex
    refine ⟨_, (pss_cons (ps_set (i := 3) sc_row_span.nd rfl (Or.inl rfl) (L3.fldK (K := K) (pv 0)))
      (pss_cons (ps_set (i := 4) sc_row_span.nd rfl (Or.inl rfl) (L3.fldK (K := K) (pv 0)))
      (L3.pss_cut (ps_for PassesOwn.never rfl (pi_list (pv 1)) (pg_name (i := 5) sc_row_span.nd rfl (Or.inl rfl))
        (pss_cons (ps_set (i := 6) sc_row_span.nd rfl (Or.inl rfl) (pe_op op_sub (L3.pmeth (pv 5) T_Slope.cl d_Slope_at (hr.mono (by decide)) (L3.pac pe_int (L3.pac (pv 2) pa_nil))) (L3.pcan c_least_inside (hr.mono (by decide)) (L3.pac (pv 5) pa_nil))))
        (pss_one (ps_if (pt_cmpR op_gt (L3.fldK (K := K) (pv 5)) pe_int (nomark _))
          (pss_one (ps_set (i := 3) sc_row_span.nd rfl (Or.inl rfl) (L3.pcallB (L3.call_maxM rfl) m_max rfl (L3.pac (pv 3) (L3.pac (pe_un un_neg (pe_op L3.op_div (pv 6) (L3.fldK (K := K) (pv 5)))) pa_nil)))))
          (pss_one (ps_if (pt_cmpR op_lt (L3.fldK (K := K) (pv 5)) pe_int (nomark _))
            (pss_one (ps_set (i := 4) sc_row_span.nd rfl (Or.inl rfl) (L3.pcallB (L3.call_minM rfl) m_min rfl (L3.pac (pv 4) (L3.pac (pe_op op_add (pe_op L3.op_div (pv 6) (pe_un un_neg (L3.fldK (K := K) (pv 5)))) pe_int) pa_nil)))))
            (pss_one (ps_if (pt_cmpR op_lt (pv 6) pe_int (nomark _))
              (pss_one (ps_set (i := 4) sc_row_span.nd rfl (Or.inl rfl) (pv 3)))
              pss_nil))))))))
      (pss_one (ps_ret (pe_tup (L3.pac (pv 3) (L3.pac (pv 4) pa_nil)))))))), ?_⟩
    walk_at "rd"
    -- the three edges
    let es : List Sl := [eSl SB SD, eSl SD SA, eSl SA SB]
    have edge : ∀ (i : Nat) (v : V), ([.ref x, .ref y, .ref z] : List V)[i]? = some v → ∃ (xa : Addr) (e : Sl), v = .ref xa ∧ InsAt CS H xa e.f ∧ es[i]? = some e ∧ Mx.Bd 17179869184 e.c ∧ Mx.Bd 8589934592 (spare e j) := fun i v hv => by
      have bd : ∀ {p r : Sd21.Spot}, Mx.GoodS p → Mx.GoodS r → Mx.Bd 17179869184 (eSl p r).c := fun gp gr => by
        have h1 := gp.y; have h2 := gr.y
        unfold Mx.Bd at h1 h2 ⊢
        unfold eSl
        dsimp only
        omega
      match i, hv with
      | 0, hv => cases hv; exact ⟨x, _, rfl, qx, rfl, bd gB gD, spare_bd gB gD hj⟩
      | 1, hv => cases hv; exact ⟨y, _, rfl, qy, rfl, bd gD gA, spare_bd gD gA hj⟩
      | 2, hv => cases hv; exact ⟨z, _, rfl, qz, rfl, bd gA gB, spare_bd gA gB hj⟩
      | i + 3, hv => simp at hv
    let Good : Nat → Int → Int → Prop := fun n l' r' => (Mx.Bd 8589934600 l' ∧ Mx.Bd 8589934600 r') ∧ ∀ i : Int, (l' ≤ i ∧ i < r') ↔ (l ≤ i ∧ i < r ∧ ∀ e ∈ es.take n, least e ≤ e.at_ i j)
    refine ⟨fun σ' H' => H' = H ∧ ∃ (l' r' : Int) (o1 o2 : Option V), σ' = [some (.ref cv), some (.ref el), some (.int j), some (.int l'), some (.int r'), o1, o2] ∧ Good 3 l' r', ?_, ?_⟩
    · refine ⟨_, rfl, el, rfl, ⟨_, q⟩, for_list (K := K) (a := el) (xs := [.ref x, .ref y, .ref z]) (fun n σ' H' => H' = H ∧ ∃ (l' r' : Int) (o1 o2 : Option V), σ' = [some (.ref cv), some (.ref el), some (.int j), some (.int l'), some (.int r'), o1, o2] ∧ Good n l' r')
        ⟨rfl, l, r, none, none, rfl, ⟨bl.mono (by decide), br.mono (by decide)⟩, fun i => ?_⟩ (fun i σ H' _ h => h.1 ▸ q) ?_ ?_⟩
      · simp
      · rintro n v σ H' hv ⟨rfl, l', r', o1, o2, rfl, g⟩
        obtain ⟨xa, e, rfl, he, hen, hb, hsp⟩ := edge n v hv
        have nb := span_bd g.1.1 g.1.2 hsp
        unfold Mx.Bd at hb
        have next : Good (n + 1) (spanL e j l') (spanR e j l' r') := ⟨nb, fun i => by
          rw [span_iff]
          have gi := g.2 i
          have tk : es.take (n + 1) = es.take n ++ [e] := by
            rw [List.take_succ, hen]
            rfl
          rw [tk]
          constructor
          · rintro ⟨h1, h2, h3⟩
            obtain ⟨a1, a2, a3⟩ := gi.mp ⟨h1, h2⟩
            refine ⟨a1, a2, fun e' he' => ?_⟩
            rcases List.mem_append.mp he' with m | m
            · exact a3 e' m
            · rw [List.mem_singleton.mp m]
              exact h3
          · rintro ⟨h1, h2, h3⟩
            have a := gi.mpr ⟨h1, h2, fun e' he' => h3 e' (List.mem_append_left _ he')⟩
            exact ⟨a.1, a.2, h3 e (List.mem_append_right _ List.mem_cons_self)⟩⟩
        walk_at "rd"
        refine meth_ok he rfl ?_
        walk_at "rd"
        refine ⟨xa, e, 0, j, rfl, he, ⟨by decide, by decide⟩, ⟨by omega, by omega⟩, ?_⟩
        walk_at "rd"
        refine ⟨xa, e, rfl, he, ?_⟩
        walk_at "rd"
        unfold spanL spanR spare at next
        refine iteD (fun h1 => ?_) (fun h1 => ?_)
        · rw [if_pos h1, if_pos h1] at next
          walk_at "rd"
          first | exact ⟨_, _, _, _, rfl, next⟩ | exact ⟨rfl, _, _, _, _, rfl, next⟩
        · rw [if_neg h1, if_neg h1] at next
          walk_at "rd"
          refine iteD (fun h2 => ?_) (fun h2 => ?_)
          · rw [if_pos h2] at next
            walk_at "rd"
            first | exact ⟨_, _, _, _, rfl, next⟩ | exact ⟨rfl, _, _, _, _, rfl, next⟩
          · rw [if_neg h2] at next
            walk_at "rd"
            refine iteD (fun h3 => ?_) (fun h3 => ?_)
            · rw [if_pos h3] at next
              walk_at "rd"
              first | exact ⟨_, _, _, _, rfl, next⟩ | exact ⟨rfl, _, _, _, _, rfl, next⟩
            · rw [if_neg h3] at next
              first | exact ⟨_, _, _, _, rfl, next⟩ | exact ⟨rfl, _, _, _, _, rfl, next⟩
      · rintro σ H' h
        exact h
    · rintro σ H' ⟨rfl, l', r', o1, o2, rfl, g⟩
      walk_at "rd"
      refine ⟨by show 2 ≤ sizeLine; decide, fun tp htp => ?_⟩
      refine k _ tp l' r' (Same.put_new htp) upd_same g.1.1 g.1.2 fun i => ?_
      rw [g.2 i]
      have tk : es.take 3 = es := rfl
      rw [tk]
      unfold Ins
      constructor
      · rintro ⟨h1, h2, h3⟩
        exact ⟨h1, h2, h3 _ (by simp [es]), h3 _ (by simp [es]), h3 _ (by simp [es])⟩
      · rintro ⟨h1, h2, h3, h4, h5⟩
        refine ⟨h1, h2, fun e he => ?_⟩
        have he' : e = eSl SB SD ∨ e = eSl SD SA ∨ e = eSl SA SB := by simpa [es] using he
        rcases he' with rfl | rfl | rfl
        · exact h4
        · exact h5
        · exact h3
theorem cut4 {ls : List Addr} (h : ls.length = 6) : cutV (ls.map V.ref) none (some 4) = (ls.take 4).map V.ref := by
  unfold cutV HT.sIx
  simp [h]
theorem sc_new_pixel : FnScope ["canvas", "shade", "i", "j", "old", "share", "color", "u", "v", "look"] ["canvas", "shade", "i", "j", "old"] (defScope s_new_pixel) := ⟨rfl, rfl, rfl, by decide +kernel, rfl, by decide +kernel, by decide +kernel⟩
/-- the pixel that is put -/
def newPx (mode : Sd21.Mode) (t : List Nat) (A B D : Sd21.Spot) (w : Int × Int × Int) (old : Nat) : Nat := if mode.mix = true then Sd21.over (Sd21.shade mode t A B D w) old else Sd21.shade mode t A B D w
def spNewPixel (K : PySem.W.Frag) (CC CH CS : Addr) : Sp := fun vs H Q _ => ∃ (cv sh lk : Addr) (i j old : Nat) (wd : Nat) (ap ad at_ : Addr) (l t r b : Int) (m : Sd21.Mode) (A B D : Sd21.Spot) (w3 : Int × Int × Int) (tt : List Nat), vs = [.ref cv, .ref sh, .int i, .int j, .int old] ∧ i < 1024 ∧ j < 1024 ∧ old < 4294967296 ∧
  InsAt CC H cv (cvF wd ap ad at_ l t r b m) ∧ ShadeAt K CH CS H sh lk (Sd21.twice A B D) (eSl B D) (eSl D A) (eSl A B) A B D ∧ LI K H at_ (Sd21Neutral.ints tt) ∧ tt.length = 4096 ∧ (∀ x ∈ tt, x < 4294967296) ∧ Mx.GoodS A ∧ Mx.GoodS B ∧ Mx.GoodS D ∧ 0 < Sd21.twice A B D ∧ Sd21.weights A B D i j = some w3 ∧
  ∀ H', Same H H' → Q (.int (newPx m tt A B D w3 old : Nat)) H'
theorem ok_newPixel {f CC CH CS : Addr} {fd : FuncData} (F : Fun K "new_pixel" "new_pixel" s_new_pixel f fd) (T_Canvas : Fields K CC nCanvas) (T_Shade : Fields K CH nShade) (T_Slope : Fields K CS nSlope) (d_Slope_at : Does P w K mg base 1 CS "at" ["self", "i", "j"] (spAt CS))
    (c_patterned : Can P w K mg base 2 "patterned" ["color", "pattern", "u", "v"] (spPatterned K)) (c_mixed : Can P w K mg base 2 "mixed" ["color", "old"] (spMixed K)) (c_split_pixel : Can P w K mg base 1 "split_pixel" ["pixel"] spSplit) (c_joined_pixel : Can P w K mg base 1 "joined_pixel" ["color"] (spJoined K)) :
    FnOk P w K mg base CX0 3 f fd ["canvas", "shade", "i", "j", "old"] (spNewPixel K CC CH CS) := by
  refine F.ok sc_new_pixel (fun vs H Q E h => ?_) (fun cdv A outer s H vs Q E hr h => ?_)
  · obtain ⟨_, _, _, _, _, _, _, _, _, _, _, _, _, _, _, _, _, _, _, _, rfl, _⟩ := h
    rfl
  · obtain ⟨cv, sh, lk, i, j, old, wd, ap, ad, at_, l, t, r, b, m, SA, SB, SD, w3, tt, rfl, hi, hj, ho, hC, hS, hT, lT, cT, gA, gB, gD, hn, hw, k⟩ := h
    obtain ⟨d, sa, ls, h1, h2, h3, h4, h5, h6⟩ := hS.ex
    have I := Mx.weights_in hw
    have sp := share_lt I hn gA gB gD
    have es := share_at I
    have b1 : Mx.Bd 100000 (i : Int) := ⟨by omega, by omega⟩
    have b2 : Mx.Bd 100000 (j : Int) := ⟨by omega, by omega⟩
    refine ⟨_, (pss_cons (ps_set (i := 5) sc_new_pixel.nd rfl (Or.inr rfl) (L3.pmeth (L3.fldK (K := K) (pv 1)) T_Slope.cl d_Slope_at (hr.mono (by decide)) (L3.pac (pv 2) (L3.pac (pv 3) pa_nil))))
      (pss_cons (L3.lcset (i := 6) rfl sc_new_pixel.nd rfl rfl rfl rfl rfl (pi_list (L3.slL (K := K) (L3.fldK (K := K) (pv 1)) po_none (po_some pe_int))) (blkOk_by (own := [("look", 9)]) rfl) (fun _ _ _ _ _ => (pg_name (i := 9) sc_new_pixel.nd rfl (Or.inl rfl) (Or.inr rfl))) (fun _ _ _ _ _ => (pe_op op_shr (pe_op L3.op_div (L3.pmeth (pv 9) T_Slope.cl d_Slope_at (hr.mono (by decide)) (L3.pac (pv 2) (L3.pac (pv 3) pa_nil))) (pv 5)) pe_int)))
      (L3.pss_cut (ps_if (pt_val (L3.fldK (K := K) (pv 0)))
        (pss_cons (ps_set (i := 7) sc_new_pixel.nd rfl (Or.inl rfl) (pe_op L3.op_div (L3.pmeth (L3.ixL (K := K) (L3.fldK (K := K) (pv 1)) pe_int) T_Slope.cl d_Slope_at (hr.mono (by decide)) (L3.pac (pv 2) (L3.pac (pv 3) pa_nil))) (pv 5)))
        (pss_cons (ps_set (i := 8) sc_new_pixel.nd rfl (Or.inl rfl) (pe_op L3.op_div (L3.pmeth (L3.ixL (K := K) (L3.fldK (K := K) (pv 1)) pe_int) T_Slope.cl d_Slope_at (hr.mono (by decide)) (L3.pac (pv 2) (L3.pac (pv 3) pa_nil))) (pv 5)))
        (pss_one (ps_set (i := 6) sc_new_pixel.nd rfl (Or.inl rfl) (L3.pcan c_patterned (hr.mono (by decide)) (L3.pac (pv 6) (L3.pac (L3.fldK (K := K) (pv 0)) (L3.pac (pv 7) (L3.pac (pv 8) pa_nil)))))))))
        pss_nil)
      (L3.pss_cut (ps_if (pt_val (L3.fldK (K := K) (pv 0)))
        (pss_one (ps_set (i := 6) sc_new_pixel.nd rfl (Or.inl rfl) (L3.pcan c_mixed (hr.mono (by decide)) (L3.pac (pv 6) (L3.pac (L3.pcan c_split_pixel (hr.mono (by decide)) (L3.pac (pv 4) pa_nil)) pa_nil)))))
        pss_nil)
      (pss_one (ps_ret (L3.pcan c_joined_pixel (hr.mono (by decide)) (L3.pac (pv 6) pa_nil)))))))), ?_⟩
    walk_at "rd"
    refine meth_ok h3 rfl ?_
    walk_at "rd"
    refine ⟨sa, _, i, j, rfl, h3, b1, b2, ?_⟩
    rw [es]
    generalize hsh : w3.1 * SA.q + w3.2.1 * SB.q + w3.2.2 * SD.q = share at sp
    walk_at "rd"
    refine ⟨lk, _, rfl, h4, fun pl hpl => ?_⟩
    rw [cut4 h5]
    have s1 : Same H (upd H pl (.lst ((ls.take 4).map V.ref))) := Same.put_new hpl
    have l4 : (ls.take 4).length = 4 := by rw [List.length_take, h5]; rfl
    refine ⟨pl, rfl, ⟨_, SqL.of upd_same⟩, fun D hD => ?_⟩
    refine lcm_list (K := K) (xs := (ls.take 4).map V.ref) (fun k v _ => v = .int ((px0 SA SB SD w3).l.getD k 0)) hD (SqL.of upd_same) (by rw [List.length_map, l4]; decide) (fun _ _ _ _ h _ => h) (fun kk v HH Kt hv ss dl kt => ?_) (fun H2 ys s2 hL hl4 hY => ?_)
    · rw [List.getElem?_map] at hv
      cases ex : (ls.take 4)[kk]? with
      | none => rw [ex] at hv; cases hv
      | some xa =>
        rw [ex] at hv
        cases hv
        have k4 : kk < 4 := by have := (List.getElem?_eq_some_iff.mp ex).1; omega
        have ex2 : ls[kk]? = some xa := by rw [List.getElem?_take, if_pos k4] at ex; exact ex
        have hx := ((h6 kk xa ex2).same s1).same ss
        refine ⟨rfl, ?_⟩
        walk_at "rd"
        refine meth_ok hx rfl ?_
        walk_at "rd"
        refine ⟨xa, _, i, j, rfl, hx, b1, b2, ?_⟩
        walk_at "rd"
        refine kt _ _ (Same.refl _) ?_
        rw [← px0_at I hn gA gB gD k4, ← look_at I (show kk < 6 by omega), hsh]
    have e4 := four_by (c := px0 SA SB SD w3) (hl4.trans (by rw [List.length_map, l4])) hY
    subst e4
    have c0 : LI K H2 D (px0 SA SB SD w3).l := SqL.of hL
    clear hY hl4
    have s02 := s1.trans s2
    -- the pattern
    refine ⟨fun σ' H' => Same H H' ∧ ∃ (o1 o2 : Option V) (cl : Addr), σ' = [some (.ref cv), some (.ref sh), some (.int i), some (.int j), some (.int old), some (.int share), some (.ref cl), o1, o2, none] ∧ LI K H' cl (pxT m tt SA SB SD w3).l, ?_, ?_⟩
    · have hC2 := hC.same s02
      have h12 := h1.same s02
      have h42 := s02.seq h4
      walk_at "rd"
      refine iteB (fun hp => ?_) (fun hp => ?_)
      · have ep : pxT m tt SA SB SD w3 = (px0 SA SB SD w3).mul (Px.of (Sd21.texel tt (mC w3 SA SB SD Sd21.Corner.u) (mC w3 SA SB SD Sd21.Corner.v))) := if_pos hp
        rw [ep]
        have at4 : ∀ kk : Nat, kk < 6 → ∃ xa, (ls.map V.ref)[kk]? = some (.ref xa) ∧ InsAt CS H2 xa (lookSl (eSl SB SD) (eSl SD SA) (eSl SA SB) SA SB SD kk).f := fun kk hk => by
          have ex : ls[kk]? = some (ls[kk]'(by omega)) := List.getElem?_eq_getElem (by omega)
          exact ⟨_, by rw [List.getElem?_map, ex]; rfl, (h6 kk _ ex).same s02⟩
        obtain ⟨x4, g4, i4⟩ := at4 4 (by omega)
        obtain ⟨x5, g5, i5⟩ := at4 5 (by omega)
        walk_at "rd"
        refine ⟨lk, _, 4, .ref x4, rfl, rfl, h42, atI_nat g4, ?_⟩
        refine meth_ok i4 rfl ?_
        walk_at "rd"
        refine ⟨x4, _, i, j, rfl, i4, b1, b2, ?_⟩
        walk_at "rd"
        refine ⟨lk, _, 5, .ref x5, rfl, rfl, h42, atI_nat g5, ?_⟩
        refine meth_ok i5 rfl ?_
        walk_at "rd"
        refine ⟨x5, _, i, j, rfl, i5, b1, b2, ?_⟩
        walk_at "rd"
        have eu : (lookSl (eSl SB SD) (eSl SD SA) (eSl SA SB) SA SB SD 4).at_ i j / share = mC w3 SA SB SD Sd21.Corner.u := by rw [← hsh]; exact look_at I (k := 4) (by omega)
        have ev : (lookSl (eSl SB SD) (eSl SD SA) (eSl SA SB) SA SB SD 5).at_ i j / share = mC w3 SA SB SD Sd21.Corner.v := by rw [← hsh]; exact look_at I (k := 5) (by omega)
        refine ⟨D, at_, px0 SA SB SD w3, tt, mC w3 SA SB SD Sd21.Corner.u, mC w3 SA SB SD Sd21.Corner.v, by rw [← eu, ← ev]; rfl, c0, px0_ok .., s02.seq hT, lT, cT, fun H' cl s' hcl => ?_⟩
        exact ⟨s02.trans s', _, _, cl, rfl, SqL.of hcl⟩
      · have ep : pxT m tt SA SB SD w3 = px0 SA SB SD w3 := if_neg (by rw [hp]; decide)
        rw [ep]
        exact ⟨s02, none, none, D, rfl, c0⟩
    · rintro σ H3 ⟨s03, o1, o2, cl, rfl, hcl⟩
      -- mixed
      refine ⟨fun σ' H' => Same H H' ∧ ∃ (o1 o2 : Option V) (cl : Addr), σ' = [some (.ref cv), some (.ref sh), some (.int i), some (.int j), some (.int old), some (.int share), some (.ref cl), o1, o2, none] ∧
        LI K H' cl (if m.mix = true then (pxT m tt SA SB SD w3).mix (Px.of old) else pxT m tt SA SB SD w3).l, ?_, ?_⟩
      · have hC3 := hC.same s03
        walk_at "rd"
        refine iteB (fun hm => ?_) (fun hm => ?_)
        · rw [if_pos hm]
          walk_at "rd"
          intro lo hlo
          have s4 : Same H3 (upd H3 lo (.lst ((Px.of old).l.map V.int))) := Same.put_new hlo
          refine ⟨cl, lo, _, _, rfl, s4.seq hcl, SqL.of upd_same, pxT_ok .., Px.of_ok _, fun H' c2 s' hc2 => ?_⟩
          exact ⟨(s03.trans s4).trans s', _, _, c2, rfl, SqL.of hc2⟩
        · rw [if_neg (by rw [hm]; decide)]
          exact ⟨s03, _, _, cl, rfl, hcl⟩
      · rintro σ H4 ⟨s04, o3, o4, c2, rfl, hc2⟩
        walk_at "rd"
        refine ⟨c2, _, rfl, hc2, ?_, ?_⟩
        · split
          · exact Px.mix_ok (pxT_ok ..) (Px.of_ok _)
          · exact pxT_ok ..
        · have e : (if m.mix = true then (pxT m tt SA SB SD w3).mix (Px.of old) else pxT m tt SA SB SD w3).pack = newPx m tt SA SB SD w3 old := by
            unfold newPx
            rw [shade_eq, over_eq (pxT_ok ..)]
            split <;> rfl
          rw [e]
          exact k H4 s04
end
end Dw


end
section
set_option Elab.async false
set_option linter.all false
set_option maxRecDepth 100000
set_option maxHeartbeats 4000000
namespace Dw
open PySem PySem.Spec PyProof.Rows L2 L3
local macro_rules | `(tactic| walk_at "side") => `(tactic| first
  | assumption
  | omega
  | exact Or.inl ⟨by omega, by omega⟩
  | exact Or.inr ⟨by omega, by omega⟩
  | exact ⟨by omega, by omega⟩
  | exact ⟨by omega, by omega, by omega⟩
  | decide)
local macro_rules | `(tactic| walk_at "rd1") => `(tactic| first
  | refine ⟨_, rfl, ?_⟩
  | refine ⟨_, _, rfl, rfl, ?_⟩
  | refine ⟨_, rfl, rfl, ?_⟩
  | refine L3.fld_ok (by assumption) (by assumption) (by decide) rfl ?_
  | refine ⟨_, _, _, _, rfl, rfl, (by assumption), (by rfl), ?_⟩
  | refine ⟨_, _, _, _, rfl, rfl, (by assumption), at_ints (by walk_at "side") (by walk_at "side"), ?_⟩
  | refine ⟨_, _, rfl, ?_⟩
  | refine And.intro (by walk_at "side") ?_)
local macro_rules | `(tactic| walk_at "rd") => `(tactic| repeat (walk_at "rd1"))
section
variable {P : Program} {w : World} {K : PySem.W.Frag} {mg : Str → Option Value} {base : Heap}
/-- a canvas with its picture p -/
structure Brd (K : PySem.W.Frag) (CC : Addr) (H : Hp) (cv ap ad at_ : Addr) (wd hd : Nat) (l t r b : Int) (m : Sd21.Mode) (tt : List Nat) (p : Sd21.Picture) : Prop where
  cvs : InsAt CC H cv (cvF wd ap ad at_ l t r b m)
  pic : Pic H ap ad p
  dim : Mx.Dims wd hd p
  pat : PatAt K H ap ad at_ tt
section
variable {CC : Addr} {H H' : Hp} {cv ap ad at_ : Addr} {wd hd : Nat} {l t r b : Int} {m : Sd21.Mode} {tt : List Nat} {p p' : Sd21.Picture}
theorem Brd.same (B : Brd K CC H cv ap ad at_ wd hd l t r b m tt p) (e : Same H H') : Brd K CC H' cv ap ad at_ wd hd l t r b m tt p := ⟨B.cvs.same e, B.pic.same e, B.dim, B.pat.rest e.rest⟩
theorem Brd.put (B : Brd K CC H cv ap ad at_ wd hd l t r b m tt p) (e : Rest [ap, ad] H H') (h : Pic H' ap ad p') (d : Mx.Dims wd hd p') : Brd K CC H' cv ap ad at_ wd hd l t r b m tt p' := ⟨B.cvs.rest e (B.pic.ins B.cvs), h, d, B.pat.rest e⟩
end
theorem nth_ints {l : List Nat} {k n : Nat} (h : l.length = n) (hk : k < n) : nth (Sd21Neutral.ints l) (k : Int) = ((l.getD k 0 : Nat) : Int) := by
  unfold nth
  have e := Mx.ints_get (l := l) (k := k) (by rw [h]; exact hk)
  rw [Int.toNat_natCast, List.getD_eq_getElem?_getD (l := Sd21Neutral.ints l), e]
  rfl
theorem set_ints (l : List Nat) (k x : Nat) : ((Sd21Neutral.ints l).map V.int).set k (.int (x : Int)) = (Sd21Neutral.ints (l.set k x)).map V.int := by
  rw [map_set_int, Mx.ints_set]
theorem place_lt {i j w h : Nat} (hi : i < w) (hj : j < h) : j * w + i < w * h := by
  have : (j + 1) * w ≤ h * w := Nat.mul_le_mul_right w hj
  have e : (j + 1) * w = j * w + w := by rw [Nat.add_mul, Nat.one_mul]
  have e2 : h * w = w * h := Nat.mul_comm h w
  omega
/-- the pixels from left on, k of them -/
def along (m : Sd21.Mode) (tt : List Nat) (v : Sd21.Window) (A B D : Sd21.Spot) (j left k : Nat) (p : Sd21.Picture) : Sd21.Picture := (List.range k).foldl (fun p k => Mx.pixelAt m tt v A B D j (left + k) p) p
theorem along_succ (m : Sd21.Mode) (tt : List Nat) (v : Sd21.Window) (A B D : Sd21.Spot) (j left k : Nat) (p : Sd21.Picture) : along m tt v A B D j left (k + 1) p = Mx.pixelAt m tt v A B D j (left + k) (along m tt v A B D j left k p) := Mx.foldl_range_succ _ _ _
theorem sc_draw_row : FnScope ["canvas", "shade", "j", "left", "right", "i", "spot", "depth"] ["canvas", "shade", "j", "left", "right"] (defScope s_draw_row) := ⟨rfl, rfl, rfl, by decide +kernel, rfl, by decide +kernel, by decide +kernel⟩
def spDrawRow (K : PySem.W.Frag) (CC CH CS : Addr) : Sp := fun vs H Q _ => ∃ (cv sh lk ap ad at_ : Addr) (wd hd j : Nat) (l t r b left right : Int) (m : Sd21.Mode) (tt : List Nat) (p : Sd21.Picture) (v : Sd21.Window) (A B D : Sd21.Spot),
  vs = [.ref cv, .ref sh, .int j, .int left, .int right] ∧ wd ≤ 1024 ∧ hd ≤ 1024 ∧ j < hd ∧ Brd K CC H cv ap ad at_ wd hd l t r b m tt p ∧ ShadeAt K CH CS H sh lk (Sd21.twice A B D) (eSl B D) (eSl D A) (eSl A B) A B D ∧ lk ∉ [ap, ad] ∧ Mx.GoodS A ∧ Mx.GoodS B ∧ Mx.GoodS D ∧ 0 < Sd21.twice A B D ∧
  Mx.Bd 8589934600 left ∧ Mx.Bd 8589934600 right ∧ (∀ i : Int, left ≤ i → i < right → 0 ≤ i ∧ i < wd ∧ Ins A B D i j ∧ v.x0 ≤ i ∧ i < v.x1 ∧ v.y0 ≤ (j : Int) ∧ (j : Int) < v.y1) ∧
  ∀ H', Brd K CC H' cv ap ad at_ wd hd l t r b m tt (along m tt v A B D j left.toNat (right - left).toNat p) → Rest [ap, ad] H H' → Q .non H'
theorem ok_drawRow {f CC CH CS : Addr} {fd : FuncData} (F : Fun K "draw_row" "draw_row" s_draw_row f fd) (T_Canvas : Fields K CC nCanvas) (T_Shade : Fields K CH nShade) (T_Slope : Fields K CS nSlope) (m_range : mg "range" = none) (d_Slope_at : Does P w K mg base 1 CS "at" ["self", "i", "j"] (spAt CS))
    (c_new_pixel : Can P w K mg base 3 "new_pixel" ["canvas", "shade", "i", "j", "old"] (spNewPixel K CC CH CS)) : FnOk P w K mg base CX0 4 f fd ["canvas", "shade", "j", "left", "right"] (spDrawRow K CC CH CS) := by
  refine F.ok sc_draw_row (fun vs H Q E h => ?_) (fun cdv A outer s H vs Q E hr h => ?_)
  · obtain ⟨_, _, _, _, _, _, _, _, _, _, _, _, _, _, _, _, _, _, _, _, _, _, rfl, _⟩ := h
    rfl
  · obtain ⟨cv, sh, lk, ap, ad, at_, wd, hd, j, l, t, r, b, left, right, m, tt, p, v, SA, SB, SD, rfl, hwd, hhd, hj, hB, hS, hlk, gA, gB, gD, hn, bl, br, hin, k⟩ := h
    unfold Mx.Bd at bl br
    refine ⟨_, (pss_one (ps_for PassesOwn.never rfl (pi_range2 rfl m_range (L3.pac (pv 3) (L3.pac (pv 4) pa_nil))) (pg_name (i := 5) sc_draw_row.nd rfl (Or.inl rfl))
        (pss_cons (ps_set (i := 6) sc_draw_row.nd rfl (Or.inl rfl) (pe_op op_add (pe_op op_mul (L3.fldK (K := K) (pv 0)) (pv 2)) (pv 5)))
        (pss_cons (ps_set (i := 7) sc_draw_row.nd rfl (Or.inl rfl) (pe_op L3.op_div (L3.pmeth (L3.fldK (K := K) (pv 1)) T_Slope.cl d_Slope_at (hr.mono (by decide)) (L3.pac (pv 5) (L3.pac (pv 2) pa_nil))) (L3.fldK (K := K) (pv 1))))
        (L3.pss_cut (ps_if (PW.pt (pw_and (pt_val (L3.fldK (K := K) (pv 0))) (pw_and1 (pt_cmpR op_lt (L3.ixL (K := K) (L3.fldK (K := K) (pv 0)) (pv 6)) (pv 7) (nomark _)))))
          (pss_one ps_continue)
          pss_nil)
        (L3.pss_cut (ps_if (pt_val (L3.fldK (K := K) (pv 0)))
          (pss_one (ps_asg (pv 7) (pg_sub (L3.fldK (K := K) (pv 0)) (pv 6) set_list)))
          pss_nil)
        (pss_one (ps_asg (L3.pcan c_new_pixel (hr.mono (by decide)) (L3.pac (pv 0) (L3.pac (pv 1) (L3.pac (pv 5) (L3.pac (pv 2) (L3.pac (L3.ixL (K := K) (L3.fldK (K := K) (pv 0)) (pv 6)) pa_nil)))))) (pg_sub (L3.fldK (K := K) (pv 0)) (pv 6) set_list))))))))), ?_⟩
    refine ⟨_, rfl, _, rfl, left, right, rfl, ⟨by omega, by omega, by omega, by omega⟩, ?_⟩
    have dA : ∀ k, Mx.Dims wd hd (along m tt v SA SB SD j left.toNat k p) := fun k => Mx.foldl_keep (P := Mx.Dims wd hd) _ _ _ hB.dim fun i _ q dq => dq.pixelAt m tt v gA gB gD hn _ _
    refine for_range (fun n σ H1 => ∃ o1 o2 o3 : Option V, σ = [some (.ref cv), some (.ref sh), some (.int j), some (.int left), some (.int right), o1, o2, o3] ∧ Brd K CC H1 cv ap ad at_ wd hd l t r b m tt (along m tt v SA SB SD j left.toNat n p) ∧ Rest [ap, ad] H H1)
      ⟨none, none, none, rfl, hB, Rest.refl _ _⟩ ?_ ?_
    · rintro n σ H1 hni ⟨o1, o2, o3, rfl, B1, r1⟩
      obtain ⟨i0, i1, hI, w0, w1, w2, w3⟩ := hin (left + n) (by omega) (by omega)
      obtain ⟨i, ei⟩ : ∃ i : Nat, left + (n : Int) = i := ⟨(left + n).toNat, by omega⟩
      have ei2 : left.toNat + n = i := by
        have := hin left (by omega) (by omega)
        omega
      rw [ei] at i0 i1 hI w0 w1 ⊢
      have hi : i < wd := by omega
      have stp := along_succ m tt v SA SB SD j left.toNat n p
      have dn := dA n
      have dn1 := dA (n + 1)
      rw [stp, ei2] at dn1
      rw [ei2] at stp
      rw [stp]
      generalize along m tt v SA SB SD j left.toNat n p = pn at B1 dn dn1 stp
      obtain ⟨wt, hw⟩ := (weights_iff SA SB SD i j).mpr hI
      have I := Mx.weights_in hw
      have win : ¬ ((i : Int) < v.x0 ∨ v.x1 ≤ (i : Int) ∨ (j : Int) < v.y0 ∨ v.y1 ≤ (j : Int)) := by omega
      rw [Mx.pixel_some win hw, dn.wide] at dn1 ⊢
      have kin := place_lt hi hj
      generalize hkk : j * wd + i = kk at dn1 kin ⊢
      have S1 := hS.rest hB.pic hlk r1
      obtain ⟨d, sa, ls, h1, h2, h3, h4, h5, h6⟩ := S1.ex
      have hz := (Mx.shares_w I hn).mean gA.z gB.z gD.z
      have tw := (Mx.twice_bd gA gB gD).2
      have cvs := B1.cvs
      have ldep : LI K H1 ad (Sd21Neutral.ints pn.depth) := SqL.of B1.pic.dep
      have lpix : LI K H1 ap (Sd21Neutral.ints pn.pix) := SqL.of B1.pic.pix
      have ndep : (Sd21Neutral.ints pn.depth).length = wd * hd := by rw [Mx.ints_len, dn.dep]
      have npix : (Sd21Neutral.ints pn.pix).length = wd * hd := by rw [Mx.ints_len, dn.pix]
      have oldlt : pn.pix.getD kk 0 < 4294967296 := by
        rw [List.getD_eq_getElem?_getD, List.getElem?_eq_getElem (by rw [dn.pix]; exact kin)]
        exact dn.col _ (List.getElem_mem _)
      walk_at "rd"
      refine meth_ok h2 rfl ?_
      walk_at "rd"
      refine ⟨d, _, i, j, rfl, h2, ⟨by omega, by omega⟩, ⟨by omega, by omega⟩, ?_⟩
      walk_at "rd"
      have ez : (wSl (eSl SB SD) (eSl SD SA) (eSl SA SB) SA.z SB.z SD.z).at_ i j / Sd21.twice SA SB SD = Mx.mean wt.1 wt.2.1 wt.2.2 SA.z SB.z SD.z := depth_at I
      obtain ⟨z, ez2⟩ : ∃ z : Nat, Mx.mean wt.1 wt.2.1 wt.2.2 SA.z SB.z SD.z = (z : Int) := ⟨_, (Int.toNat_of_nonneg hz.1).symm⟩
      rw [ez2] at dn1 hz ez ⊢
      rw [Int.toNat_natCast] at dn1 ⊢
      have ek : (wd : Int) * (j : Int) + (i : Int) = (kk : Int) := by
        rw [← hkk, Int.natCast_add, Int.natCast_mul, Int.mul_comm]
      dsimp only [gName, List.set_cons_succ, List.set_cons_zero]
      rw [ek, ez]
      let σ0 : List (Option V) := [some (.ref cv), some (.ref sh), some (.int j), some (.int left), some (.int right), some (.int i), some (.int kk), some (.int z)]
      -- the depth is asked
      refine ⟨fun σ' H' => σ' = σ0 ∧ H' = H1 ∧ ¬ (m.ask = true ∧ pn.depth.getD kk 0 < z), ?_, ?_⟩
      · refine tt_and m.ask (decide (pn.depth.getD kk 0 < z)) (fun Q q => ?_) (fun _ Q q => ?_) ?_
        · walk_at "rd"
          exact q
        · walk_at "rd"
          rw [nth_ints dn.dep kin]
          have ed : decide (((pn.depth.getD kk 0 : Nat) : Int) < (z : Int)) = decide (pn.depth.getD kk 0 < z) := decide_eq_decide.mpr (by omega)
          rw [← ed] at q
          exact q
        · refine iteB (fun hb => ?_) (fun hb => ?_)
          · rw [Bool.and_eq_true, decide_eq_true_eq] at hb
            have e : Sd21.dot m kk z (Sd21.shade m tt SA SB SD wt) pn = pn := by
              unfold Sd21.dot
              rw [if_pos hb]
            rw [e]
            exact ⟨_, _, _, rfl, B1, r1⟩
          · refine ⟨rfl, rfl, fun z => ?_⟩
            rw [Bool.and_eq_false_iff, decide_eq_false_iff_not] at hb
            rcases hb with hb | hb
            · rw [hb] at z
              exact absurd z.1 (by decide)
            · exact hb z.2
      · rintro σ1 H2 ⟨rfl, rfl, hask⟩
        have ed : Sd21.dot m kk z (Sd21.shade m tt SA SB SD wt) pn = { pn with pix := pn.pix.set kk (newPx m tt SA SB SD wt (pn.pix.getD kk 0)), depth := if m.keep = true then pn.depth.set kk z else pn.depth } := by
          unfold Sd21.dot newPx
          rw [if_neg hask]
        rw [ed] at dn1 ⊢
        clear ed hask
        -- the depth is kept
        refine ⟨fun σ' H' => σ' = σ0 ∧ Pic H' ap ad { pn with depth := if m.keep = true then pn.depth.set kk z else pn.depth } ∧ Rest [ap, ad] H2 H', ?_, ?_⟩
        · walk_at "rd"
          refine iteB (fun hk => ?_) (fun hk => ?_)
          · walk_at "rd"
            refine ⟨ad, _, _, _, rfl, rfl, B1.pic.dep, ix_of (by omega) (by rw [List.length_map, ndep]; omega), ?_⟩
            refine ⟨rfl, ⟨?_, ?_, B1.pic.ne⟩, (Rest.refl _ _).put (by simp) _⟩
            · rw [upd_ne B1.pic.ne]
              exact B1.pic.pix
            · rw [upd_same, Int.toNat_natCast, set_ints, if_pos hk]
          · refine ⟨rfl, ?_, Rest.refl _ _⟩
            rw [if_neg (by rw [hk]; decide)]
            exact B1.pic
        · rintro σ2 H3 ⟨rfl, P3, r3⟩
          have cvs3 := cvs.rest r3 (B1.pic.ins cvs)
          have S3 := S1.rest B1.pic hlk r3
          have T3 := B1.pat.rest r3
          have lp3 : LI K H3 ap (Sd21Neutral.ints pn.pix) := SqL.of P3.pix
          walk_at "rd"
          rw [nth_ints dn.pix kin]
          refine ⟨cv, sh, lk, i, j, pn.pix.getD kk 0, wd, ap, ad, at_, l, t, r, b, m, SA, SB, SD, wt, tt, rfl, by omega, by omega, oldlt, cvs3, S3, T3.li, T3.len, T3.col, gA, gB, gD, hn, hw, fun H4 s4 => ?_⟩
          have cvs4 := cvs3.same s4
          have P4 := P3.same s4
          walk_at "rd"
          refine ⟨ap, _, _, _, rfl, rfl, P4.pix, ix_of (by omega) (by rw [List.length_map, npix]; omega), ?_⟩
          have rr : Rest [ap, ad] H2 (upd H4 ap (.lst (((Sd21Neutral.ints pn.pix).map V.int).set ((kk : Int).toNat) (.int (newPx m tt SA SB SD wt (pn.pix.getD kk 0) : Nat))))) := (r3.trans s4.rest).put (by simp) _
          refine ⟨_, _, _, rfl, B1.put rr ⟨?_, ?_, B1.pic.ne⟩ dn1, r1.trans rr⟩
          · rw [upd_same, Int.toNat_natCast]
            dsimp only
            rw [set_ints]
          · rw [upd_ne B1.pic.ne.symm]
            exact P4.dep
    · rintro σ H1 ⟨o1, o2, o3, rfl, B1, r1⟩
      exact k H1 B1 r1
end
end Dw


end
section
set_option Elab.async false
set_option linter.all false
set_option maxRecDepth 100000
set_option maxHeartbeats 4000000
namespace Dw
open PySem PySem.Spec PyProof.Rows L2 L3
local macro_rules | `(tactic| walk_at "side") => `(tactic| first
  | assumption
  | omega
  | exact Or.inl ⟨by omega, by omega⟩
  | exact Or.inr ⟨by omega, by omega⟩
  | exact ⟨by omega, by omega⟩
  | exact ⟨by omega, by omega, by omega⟩
  | decide)
local macro_rules | `(tactic| walk_at "rd1") => `(tactic| first
  | refine ⟨_, rfl, ?_⟩
  | refine ⟨_, _, rfl, rfl, ?_⟩
  | refine ⟨_, rfl, rfl, ?_⟩
  | refine L3.fld_ok (by assumption) (by assumption) (by decide) rfl ?_
  | refine ⟨_, _, _, _, rfl, rfl, (by assumption), (by rfl), ?_⟩
  | refine ⟨_, _, _, _, rfl, rfl, (by assumption), at_ints (by walk_at "side") (by walk_at "side"), ?_⟩
  | refine ⟨_, _, rfl, ?_⟩
  | refine And.intro (by walk_at "side") ?_)
local macro_rules | `(tactic| walk_at "rd") => `(tactic| repeat (walk_at "rd1"))
section
variable {P : Program} {w : World} {K : PySem.W.Frag} {mg : Str → Option Value} {base : Heap}
theorem Sls.rest {C : Addr} {H H' : Hp} {ap ad l : Addr} {p : Sd21.Picture} {a b c : Sl} (h : Sls K C H l a b c) (hp : Pic H ap ad p) (hl : l ∉ [ap, ad]) (r : Rest [ap, ad] H H') : Sls K C H' l a b c := by
  obtain ⟨x, y, z, q, q1, q2, q3⟩ := h.ex
  exact ⟨x, y, z, r.li hl q, q1.rest r (hp.ins q1), q2.rest r (hp.ins q2), q3.rest r (hp.ins q3)⟩
/-- a row by its span -/
theorem row_along {m : Sd21.Mode} {tt : List Nat} {v : Sd21.Window} {A B D : Sd21.Spot} {wd j : Nat} {l' r' : Int} (p : Sd21.Picture) (h : ∀ i : Int, (l' ≤ i ∧ i < r') ↔ (max v.x0 0 ≤ i ∧ i < min v.x1 wd ∧ Ins A B D i j)) :
    Mx.rowOf m tt v A B D wd j p = along m tt v A B D j l'.toNat (r' - l').toNat p := by
  unfold Mx.rowOf along
  rw [Mx.win_fold (fun p i => Mx.pixelAt m tt v A B D j i p) wd l' r' p fun i hi ho b => ?_]
  · by_cases hlt : l' < r'
    · have a1 := (h l').mp ⟨by omega, by omega⟩
      have a2 := (h (r' - 1)).mp ⟨by omega, by omega⟩
      rw [show max (0 : Int) l' = l' by omega, show min (wd : Int) r' = r' by omega]
    · rw [show (min (wd : Int) r' - max 0 l').toNat = 0 by omega, show (r' - l').toNat = 0 by omega]
      rfl
  · by_cases hw : ((i : Int) < v.x0 ∨ v.x1 ≤ (i : Int) ∨ (j : Int) < v.y0 ∨ v.y1 ≤ (j : Int))
    · exact Mx.pixel_skip hw b
    · refine Mx.pixel_none hw (weights_none fun hI => ?_) b
      have := (h i).mpr ⟨by omega, by omega, hI⟩
      omega
/-- rows beyond the corners -/
theorem row_off {m : Sd21.Mode} {tt : List Nat} {v : Sd21.Window} {A B D : Sd21.Spot} {wd j : Nat} (hn : 0 < Sd21.twice A B D) {lo hi : Int} (l1 : lo ≤ A.y) (l2 : lo ≤ B.y) (l3 : lo ≤ D.y) (h1 : A.y ≤ hi) (h2 : B.y ≤ hi) (h3 : D.y ≤ hi) (ho : 16 * (j : Int) + 8 < lo ∨ hi < 16 * (j : Int) + 8)
    (p : Sd21.Picture) : Mx.rowOf m tt v A B D wd j p = p := by
  refine Mx.foldl_none _ wd p fun i _ b => ?_
  by_cases hw : ((i : Int) < v.x0 ∨ v.x1 ≤ (i : Int) ∨ (j : Int) < v.y0 ∨ v.y1 ≤ (j : Int))
  · exact Mx.pixel_skip hw b
  · refine Mx.pixel_none hw ?_ b
    cases e : Sd21.weights A B D i j with
    | none => rfl
    | some w3 =>
      have := ins_rows e hn l1 l2 l3 h1 h2 h3
      omega
def rowsUp (m : Sd21.Mode) (tt : List Nat) (v : Sd21.Window) (A B D : Sd21.Spot) (wd top k : Nat) (p : Sd21.Picture) : Sd21.Picture := (List.range k).foldl (fun p k => Mx.rowOf m tt v A B D wd (top + k) p) p
theorem rowsUp_succ (m : Sd21.Mode) (tt : List Nat) (v : Sd21.Window) (A B D : Sd21.Spot) (wd top k : Nat) (p : Sd21.Picture) : rowsUp m tt v A B D wd top (k + 1) p = Mx.rowOf m tt v A B D wd (top + k) (rowsUp m tt v A B D wd top k p) := Mx.foldl_range_succ _ _ _
theorem rows_up {m : Sd21.Mode} {tt : List Nat} {v : Sd21.Window} {A B D : Sd21.Spot} {wd hd : Nat} {p : Sd21.Picture} (d : Mx.Dims wd hd p) (gA : Mx.GoodS A) (gB : Mx.GoodS B) (gD : Mx.GoodS D) (hn : 0 < Sd21.twice A B D) {lo hi : Int} (l1 : lo ≤ A.y) (l2 : lo ≤ B.y) (l3 : lo ≤ D.y) (h1 : A.y ≤ hi) (h2 : B.y ≤ hi) (h3 : D.y ≤ hi)
    {top bot : Int} (et : top = max (max v.y0 0) ((lo - 8 + 16 - 1) / 16)) (eb : bot = min (min v.y1 hd) ((hi - 8) / 16 + 1)) : Mx.rowsOf m tt v A B D p = rowsUp m tt v A B D wd top.toNat (bot - top).toNat p := by
  rw [Mx.rows_dims d gA gB gD hn]
  rw [Mx.win_fold (fun p j => Mx.rowOf m tt v A B D wd j p) hd top bot p fun j hj ho b => ?_]
  · unfold rowsUp
    rw [show max (0 : Int) top = top by omega, show min (hd : Int) bot = bot by omega]
  · by_cases hw : (j : Int) < v.y0 ∨ v.y1 ≤ (j : Int)
    · exact Mx.rowOf_skip hw b
    · exact row_off hn l1 l2 l3 h1 h2 h3 (by omega) b
theorem sc_turn : FnScope ["triangle", "first", "second", "third"] ["triangle"] (defScope s_turn) := ⟨rfl, rfl, rfl, by decide +kernel, rfl, by decide +kernel, by decide +kernel⟩
def spTurn (K : PySem.W.Frag) : Sp := fun vs H Q _ => ∃ (t : Addr) (A B D : Sd21.Spot), vs = [.ref t] ∧ Tri K H t A B D ∧ Mx.GoodS A ∧ Mx.GoodS B ∧ Mx.GoodS D ∧ Q (.int (Sd21.twice A B D)) H
theorem ok_turn {f : Addr} {fd : FuncData} (F : Fun K "turn" "turn" s_turn f fd) : FnOk P w K mg base CX0 1 f fd ["triangle"] (spTurn K) := by
  refine F.ok sc_turn (fun vs H Q E h => ?_) (fun cdv A outer s H vs Q E hr h => ?_)
  · obtain ⟨_, _, _, _, rfl, _⟩ := h
    rfl
  · obtain ⟨t, SA, SB, SD, rfl, hT, gA, gB, gD, k⟩ := h
    obtain ⟨x, y, z, q, qx, qy, qz⟩ := hT.ex
    have x1 := gA.x.1; have x2 := gA.x.2; have y1 := gA.y.1; have y2 := gA.y.2; have z1 := gB.x.1; have z2 := gB.x.2; have u1 := gB.y.1; have u2 := gB.y.2
    refine ⟨_, (pss_cons (ps_set (i := 1) sc_turn.nd rfl (Or.inl rfl) (L3.ixL (K := K) (pv 0) pe_int))
      (pss_cons (ps_set (i := 2) sc_turn.nd rfl (Or.inl rfl) (L3.ixL (K := K) (pv 0) pe_int))
      (pss_cons (ps_set (i := 3) sc_turn.nd rfl (Or.inl rfl) (L3.ixL (K := K) (pv 0) pe_int))
      (pss_one (ps_ret (pe_op op_sub (pe_op op_mul (pe_op op_sub (L3.ixL (K := K) (pv 2) pe_int) (L3.ixL (K := K) (pv 1) pe_int)) (pe_op op_sub (L3.ixL (K := K) (pv 3) pe_int) (L3.ixL (K := K) (pv 1) pe_int))) (pe_op op_mul (pe_op op_sub (L3.ixL (K := K) (pv 2) pe_int) (L3.ixL (K := K) (pv 1) pe_int)) (pe_op op_sub (L3.ixL (K := K) (pv 3) pe_int) (L3.ixL (K := K) (pv 1) pe_int))))))))), ?_⟩
    walk_at "rd"
    exact k
theorem sc_fill_triangle : FnScope ["canvas", "triangle", "area", "first", "second", "third", "edges", "shade", "downs", "top", "bottom", "j", "span", "corner"] ["canvas", "triangle", "area"] (defScope s_fill_triangle) := ⟨rfl, rfl, rfl, by decide +kernel, rfl, by decide +kernel, by decide +kernel⟩
def spFill (K : PySem.W.Frag) (CC : Addr) : Sp := fun vs H Q _ => ∃ (cv tri ap ad at_ : Addr) (wd hd : Nat) (m : Sd21.Mode) (tt : List Nat) (p : Sd21.Picture) (v : Sd21.Window) (A B D : Sd21.Spot),
  vs = [.ref cv, .ref tri, .int (Sd21.twice A B D)] ∧ wd ≤ 1024 ∧ hd ≤ 1024 ∧ Brd K CC H cv ap ad at_ wd hd (max v.x0 0) (max v.y0 0) (min v.x1 wd) (min v.y1 hd) m tt p ∧ Tri K H tri A B D ∧ Mx.GoodS A ∧ Mx.GoodS B ∧ Mx.GoodS D ∧ 0 < Sd21.twice A B D ∧
  Mx.Bd 16777215 v.x0 ∧ Mx.Bd 16777215 v.y0 ∧ Mx.Bd 16777215 v.x1 ∧ Mx.Bd 16777215 v.y1 ∧
  ∀ H', Brd K CC H' cv ap ad at_ wd hd (max v.x0 0) (max v.y0 0) (min v.x1 wd) (min v.y1 hd) m tt (Mx.rowsOf m tt v A B D p) → Rest [ap, ad] H H' → Q .non H'
theorem ok_fill {f CC CH CS : Addr} {fd : FuncData} (F : Fun K "fill_triangle" "fill_triangle" s_fill_triangle f fd) (T_Canvas : Fields K CC nCanvas) (m_range : mg "range" = none) (m_max : mg "max" = none) (m_min : mg "min" = none) (m_MIDDLE : Num mg "MIDDLE" 8) (m_PIXEL : Num mg "PIXEL" 16)
    (c_edge_slope : Can P w K mg base 3 "edge_slope" ["first", "second"] (spEdge K CS)) (c_Shade : Makes P w K mg base 5 "Shade" CH ["self", "triangle", "weights", "area"] (spShade K CH CS)) (c_row_span : Can P w K mg base 2 "row_span" ["canvas", "edges", "j"] (spSpan K CC CS))
    (c_draw_row : Can P w K mg base 4 "draw_row" ["canvas", "shade", "j", "left", "right"] (spDrawRow K CC CH CS)) : FnOk P w K mg base CX0 7 f fd ["canvas", "triangle", "area"] (spFill K CC) := by
  refine F.ok sc_fill_triangle (fun vs H Q E h => ?_) (fun cdv A outer s H vs Q E hr h => ?_)
  · obtain ⟨_, _, _, _, _, _, _, _, _, _, _, _, _, _, rfl, _⟩ := h
    rfl
  · obtain ⟨cv, tri, ap, ad, at_, wd, hd, m, tt, p, v, SA, SB, SD, rfl, hwd, hhd, hB, hT, gA, gB, gD, hn, v0, v1, v2, v3, k⟩ := h
    obtain ⟨x, y, z, q, qx, qy, qz⟩ := hT.ex
    refine ⟨_, (pss_cons (ps_set (i := 3) sc_fill_triangle.nd rfl (Or.inl rfl) (L3.ixL (K := K) (pv 1) pe_int))
      (pss_cons (ps_set (i := 4) sc_fill_triangle.nd rfl (Or.inl rfl) (L3.ixL (K := K) (pv 1) pe_int))
      (pss_cons (ps_set (i := 5) sc_fill_triangle.nd rfl (Or.inl rfl) (L3.ixL (K := K) (pv 1) pe_int))
      (pss_cons (ps_set (i := 6) sc_fill_triangle.nd rfl (Or.inl rfl) (pe_lst (L3.pac (L3.pcan c_edge_slope (hr.mono (by decide)) (L3.pac (pv 4) (L3.pac (pv 5) pa_nil))) (L3.pac (L3.pcan c_edge_slope (hr.mono (by decide)) (L3.pac (pv 5) (L3.pac (pv 3) pa_nil))) (L3.pac (L3.pcan c_edge_slope (hr.mono (by decide)) (L3.pac (pv 3) (L3.pac (pv 4) pa_nil))) pa_nil)))))
      (pss_cons (ps_set (i := 7) sc_fill_triangle.nd rfl (Or.inl rfl) (L3.pmake c_Shade (hr.mono (by decide)) (L3.pac (pv 1) (L3.pac (pv 6) (L3.pac (pv 2) pa_nil)))))
      (pss_cons (L3.lcset (i := 8) rfl sc_fill_triangle.nd rfl rfl rfl rfl rfl (pi_list (pv 1)) (blkOk_by (own := [("corner", 13)]) rfl) (fun _ _ _ _ _ => (pg_name (i := 13) sc_fill_triangle.nd rfl (Or.inl rfl) (Or.inr rfl))) (fun _ _ _ _ _ => (L3.ixL (K := K) (pv 13) pe_int)))
      (pss_cons (ps_set (i := 9) sc_fill_triangle.nd rfl (Or.inl rfl) (L3.pcallB (L3.call_maxM rfl) m_max rfl (L3.pac (L3.fldK (K := K) (pv 0)) (L3.pac (pe_op L3.op_div (pe_op op_sub (pe_op op_add (pe_op op_sub (L3.pcallB (L3.call_minL rfl) m_min rfl (L3.pac (pv 8) pa_nil)) (L3.pnum m_MIDDLE)) (L3.pnum m_PIXEL)) pe_int) (L3.pnum m_PIXEL)) pa_nil))))
      (pss_cons (ps_set (i := 10) sc_fill_triangle.nd rfl (Or.inl rfl) (L3.pcallB (L3.call_minM rfl) m_min rfl (L3.pac (L3.fldK (K := K) (pv 0)) (L3.pac (pe_op op_add (pe_op L3.op_div (pe_op op_sub (L3.pcallB (L3.call_maxL rfl) m_max rfl (L3.pac (pv 8) pa_nil)) (L3.pnum m_MIDDLE)) (L3.pnum m_PIXEL)) pe_int) pa_nil))))
      (pss_one (ps_for PassesOwn.never rfl (pi_range2 rfl m_range (L3.pac (pv 9) (L3.pac (pv 10) pa_nil))) (pg_name (i := 11) sc_fill_triangle.nd rfl (Or.inl rfl))
        (pss_cons (ps_set (i := 12) sc_fill_triangle.nd rfl (Or.inl rfl) (L3.pcan c_row_span (hr.mono (by decide)) (L3.pac (pv 0) (L3.pac (pv 6) (L3.pac (pv 11) pa_nil)))))
        (pss_one (ps_expr (L3.pcan c_draw_row (hr.mono (by decide)) (L3.pac (pv 0) (L3.pac (pv 7) (L3.pac (pv 11) (L3.pac (L3.ixT (K := K) (pv 12) pe_int) (L3.pac (L3.ixT (K := K) (pv 12) pe_int) pa_nil))))))))))))))))))), ?_⟩
    walk_at "rd"
    refine ⟨y, z, SB, SD, rfl, qy, qz, gB, gD, fun H1 e0 s1 i0 => ?_⟩
    have qx1 := s1.seq qx; have qy1 := s1.seq qy; have qz1 := s1.seq qz
    walk_at "rd"
    refine ⟨z, x, SD, SA, rfl, qz1, qx1, gD, gA, fun H2 e1 s2 i1 => ?_⟩
    have qx2 := s2.seq qx1; have qy2 := s2.seq qy1
    walk_at "rd"
    refine ⟨x, y, SA, SB, rfl, qx2, qy2, gA, gB, fun H3 e2 s3 i2 => ?_⟩
    refine ⟨by show 3 ≤ sizeLine; decide, fun el hel => ?_⟩
    have s03 : Same H H3 := (s1.trans s2).trans s3
    have s4 : Same H3 (upd H3 el (.lst [.ref e0, .ref e1, .ref e2])) := Same.put_new hel
    have S4 : Sls K CS (upd H3 el (.lst [.ref e0, .ref e1, .ref e2])) el (eSl SB SD) (eSl SD SA) (eSl SA SB) := ⟨e0, e1, e2, SqL.of upd_same, ((i0.same s2).same s3).same s4, (i1.same s3).same s4, i2.same s4⟩
    have s04 := s03.trans s4
    have elf : H el = none := s03.free hel
    generalize upd H3 el (.lst [.ref e0, .ref e1, .ref e2]) = H4 at s4 S4 s04
    walk_at "rd"
    intro px dx nx ndx nex
    refine ⟨px, dx, tri, el, _, _, _, _, SA, SB, SD, H4, rfl, upd_same, fun b o e => by rw [upd_ne (ne_of_none e nx), upd_ne (ne_of_none e ndx)]; exact e, nx, S4, hT.same s04, gA, gB, gD, fun H5 lk S5 hlk s5 => ⟨rfl, ?_⟩⟩
    have s05 := s04.trans s5
    have lkf : H lk = none := s04.free hlk
    -- how far down the corners lie
    refine ⟨_, rfl, tri, rfl, ⟨_, s05.seq q⟩, fun D8 hD8 => ?_⟩
    refine lcm_list (K := K) (fun i v _ => v = .int ((([SA, SB, SD] : List Sd21.Spot).getD i SA).y)) hD8 (s05.seq q) (by show 3 ≤ sizeLine; decide) (fun _ _ _ _ h _ => h) (fun i v HH Kt hv ss dl kt => ?_) (fun H6 ys s6 hL hl3 hY => ?_)
    · obtain ⟨ad', S, rfl, hi, he⟩ := tri_items qx qy qz hv
      have hi3 := (s05.trans ss).seq hi
      refine ⟨rfl, ?_⟩
      walk_at "rd"
      exact kt _ _ (Same.refl _) (by rw [← he])
    have e8 := tri_three (g := fun S => S.y) hl3 hY
    subst e8
    clear hY hl3
    have l8 : LI K H6 D8 [SA.y, SB.y, SD.y] := SqL.of hL
    have s06 := s05.trans s6
    have B6 := hB.same s06
    have cvs6 := B6.cvs
    walk_at "rd"
    refine ⟨D8, _, rfl, l8, by show 0 < 3; decide, fun lo hlo lmin => ?_⟩
    have l1 : lo ≤ SA.y := lmin _ (by simp)
    have l2 : lo ≤ SB.y := lmin _ (by simp)
    have l3 : lo ≤ SD.y := lmin _ (by simp)
    have blo : Mx.Bd 32768 lo := by
      have hlo' : lo = SA.y ∨ lo = SB.y ∨ lo = SD.y := by simpa using hlo
      rcases hlo' with e | e | e
      · rw [e]; exact gA.y
      · rw [e]; exact gB.y
      · rw [e]; exact gD.y
    walk_at "rd"
    refine ⟨D8, _, rfl, l8, by show 0 < 3; decide, fun hi hhi hmax => ?_⟩
    have h1 : SA.y ≤ hi := hmax _ (by simp)
    have h2 : SB.y ≤ hi := hmax _ (by simp)
    have h3 : SD.y ≤ hi := hmax _ (by simp)
    have bhi : Mx.Bd 32768 hi := by
      have hhi' : hi = SA.y ∨ hi = SB.y ∨ hi = SD.y := by simpa using hhi
      rcases hhi' with e | e | e
      · rw [e]; exact gA.y
      · rw [e]; exact gB.y
      · rw [e]; exact gD.y
    unfold Mx.Bd at blo bhi v0 v1 v2 v3
    walk_at "rd"
    have offs : ∀ a : Addr, H a = none → a ∉ [ap, ad] := fun a ha hm => by
      have e' : a = ap ∨ a = ad := by simpa using hm
      rcases e' with rfl | rfl
      · rw [hB.pic.pix] at ha; cases ha
      · rw [hB.pic.dep] at ha; cases ha
    have elo := offs el elf
    have lko := offs lk lkf
    have S6 := (S4.same s5).same s6
    have Sh6 := S5.same s6
    have fin := rows_up (m := m) (tt := tt) (v := v) (hd := hd) hB.dim gA gB gD hn l1 l2 l3 h1 h2 h3 (top := max (max v.y0 0) ((lo - 8 + 16 - 1) / 16)) (bot := min (min v.y1 hd) ((hi - 8) / 16 + 1)) rfl rfl
    generalize et : max (max v.y0 0) ((lo - 8 + 16 - 1) / 16) = top at fin ⊢
    generalize eb : min (min v.y1 (hd : Int)) ((hi - 8) / 16 + 1) = bot at fin ⊢
    refine for_range (fun n σ H1 => ∃ o1 o2 : Option V, σ = [some (.ref cv), some (.ref tri), some (.int (Sd21.twice SA SB SD)), some (.ref x), some (.ref y), some (.ref z), some (.ref el), some (.ref px), some (.ref D8), some (.int top), some (.int bot), o1, o2, none] ∧
        Brd K CC H1 cv ap ad at_ wd hd (max v.x0 0) (max v.y0 0) (min v.x1 wd) (min v.y1 hd) m tt (rowsUp m tt v SA SB SD wd top.toNat n p) ∧ Rest [ap, ad] H6 H1)
      ⟨none, none, rfl, B6, Rest.refl _ _⟩ ?_ ?_
    · rintro n σ H7 hni ⟨o1, o2, rfl, B7, r7⟩
      obtain ⟨j, ej⟩ : ∃ j : Nat, top + (n : Int) = j := ⟨(top + n).toNat, by omega⟩
      have ej2 : top.toNat + n = j := by omega
      have hj : j < hd := by omega
      rw [ej]
      have stp := rowsUp_succ m tt v SA SB SD wd top.toNat n p
      rw [ej2] at stp
      rw [stp]
      generalize rowsUp m tt v SA SB SD wd top.toNat n p = pn at B7
      have S7 := S6.rest B6.pic elo r7
      have Sh7 := Sh6.rest B6.pic lko r7
      walk_at "rd"
      refine ⟨cv, el, j, wd, ap, ad, at_, _, _, _, _, m, SA, SB, SD, rfl, by omega, B7.cvs, S7, gA, gB, gD, ⟨by omega, by omega⟩, ⟨by omega, by omega⟩, fun H8 tp l' r' s8 ht bl br hiff => ?_⟩
      have tq : SqT K H8 tp [.int l', .int r'] := SqT.of ht
      walk_at "rd"
      refine ⟨cv, px, lk, ap, ad, at_, wd, hd, j, _, _, _, _, l', r', m, tt, pn, v, SA, SB, SD, rfl, hwd, hhd, hj, B7.same s8, Sh7.same s8, lko, gA, gB, gD, hn, bl, br, fun i hi1 hi2 => ?_, fun H9 B9 r9 => ?_⟩
      · obtain ⟨a1, a2, a3⟩ := (hiff i).mp ⟨hi1, hi2⟩
        exact ⟨by omega, by omega, a3, by omega, by omega, by omega, by omega⟩
      · rw [← row_along pn hiff] at B9
        exact ⟨_, _, rfl, B9, (r7.trans s8.rest).trans r9⟩
    · rintro σ H7 ⟨o1, o2, rfl, B7, r7⟩
      rw [← fin] at B7
      exact k H7 B7 (s06.rest.trans r7)
theorem sc_draw_triangle : FnScope ["canvas", "triangle", "area"] ["canvas", "triangle"] (defScope s_draw_triangle) := ⟨rfl, rfl, rfl, by decide +kernel, rfl, by decide +kernel, by decide +kernel⟩
def spTriangle (K : PySem.W.Frag) (CC : Addr) : Sp := fun vs H Q _ => ∃ (cv tri ap ad at_ : Addr) (wd hd : Nat) (m : Sd21.Mode) (tt : List Nat) (p : Sd21.Picture) (v : Sd21.Window) (A B D : Sd21.Spot),
  vs = [.ref cv, .ref tri] ∧ wd ≤ 1024 ∧ hd ≤ 1024 ∧ Brd K CC H cv ap ad at_ wd hd (max v.x0 0) (max v.y0 0) (min v.x1 wd) (min v.y1 hd) m tt p ∧ Tri K H tri A B D ∧ Mx.GoodS A ∧ Mx.GoodS B ∧ Mx.GoodS D ∧
  Mx.Bd 16777215 v.x0 ∧ Mx.Bd 16777215 v.y0 ∧ Mx.Bd 16777215 v.x1 ∧ Mx.Bd 16777215 v.y1 ∧
  ∀ H', Brd K CC H' cv ap ad at_ wd hd (max v.x0 0) (max v.y0 0) (min v.x1 wd) (min v.y1 hd) m tt (Sd21.triangle m tt v A B D p) → Rest [ap, ad] H H' → Q .non H'
theorem ok_triangle {f CC : Addr} {fd : FuncData} (F : Fun K "draw_triangle" "draw_triangle" s_draw_triangle f fd) (T_Canvas : Fields K CC nCanvas) (c_turn : Can P w K mg base 1 "turn" ["triangle"] (spTurn K)) (c_fill_triangle : Can P w K mg base 7 "fill_triangle" ["canvas", "triangle", "area"] (spFill K CC)) :
    FnOk P w K mg base CX0 8 f fd ["canvas", "triangle"] (spTriangle K CC) := by
  refine F.ok sc_draw_triangle (fun vs H Q E h => ?_) (fun cdv A outer s H vs Q E hr h => ?_)
  · obtain ⟨_, _, _, _, _, _, _, _, _, _, _, _, _, _, rfl, _⟩ := h
    rfl
  · obtain ⟨cv, tri, ap, ad, at_, wd, hd, m, tt, p, v, SA, SB, SD, rfl, hwd, hhd, hB, hT, gA, gB, gD, v0, v1, v2, v3, k⟩ := h
    refine ⟨_, (pss_cons (ps_set (i := 2) sc_draw_triangle.nd rfl (Or.inl rfl) (L3.pcan c_turn (hr.mono (by decide)) (L3.pac (pv 1) pa_nil)))
      (L3.pss_cut (ps_if (PW.pt (pw_and (pt_cmpR op_gt (pv 2) pe_int (nomark _)) (pw_and1 (pt_not (pt_val (L3.fldK (K := K) (pv 0)))))))
        (pss_one (ps_expr (L3.pcan c_fill_triangle (hr.mono (by decide)) (L3.pac (pv 0) (L3.pac (pv 1) (L3.pac (pv 2) pa_nil))))))
        pss_nil)
      (pss_one (ps_if (PW.pt (pw_and (pt_cmpR op_lt (pv 2) pe_int (nomark _)) (pw_and1 (pt_not (pt_val (L3.fldK (K := K) (pv 0)))))))
        (pss_one (ps_expr (L3.pcan c_fill_triangle (hr.mono (by decide)) (L3.pac (pv 0) (L3.pac (pe_lst (L3.pac (L3.ixL (K := K) (pv 1) pe_int) (L3.pac (L3.ixL (K := K) (pv 1) pe_int) (L3.pac (L3.ixL (K := K) (pv 1) pe_int) pa_nil)))) (L3.pac (pe_un un_neg (pv 2)) pa_nil))))))
        pss_nil)))), ?_⟩
    walk_at "rd"
    refine ⟨tri, SA, SB, SD, rfl, hT, gA, gB, gD, ?_⟩
    have cvs := hB.cvs
    have ht := Mx.tri_in (mode := m) (t := tt) (v := v) (a := SA) (b := SB) (c := SD)
    have ho := Mx.tri_out (mode := m) (t := tt) (v := v) (a := SA) (b := SB) (c := SD)
    generalize hN : Sd21.twice SA SB SD = N at ht ho
    let p1 : Sd21.Picture := if 0 < N ∧ ¬ m.side = 2 then Sd21.triangle m tt v SA SB SD p else p
    refine ⟨fun σ' H' => σ' = [some (.ref cv), some (.ref tri), some (.int N)] ∧ Brd K CC H' cv ap ad at_ wd hd (max v.x0 0) (max v.y0 0) (min v.x1 wd) (min v.y1 hd) m tt p1 ∧ Rest [ap, ad] H H' ∧ (N < 0 → H' = H), ?_, ?_⟩
    · refine tt_and (decide (0 < N)) (!decide (m.side = 2)) (fun Q q => ?_) (fun _ Q q => ?_) ?_
      · walk_at "rd"
        exact q
      · walk_at "rd"
        exact q
      · refine iteB (fun hb => ?_) (fun hb => ?_)
        · rw [Bool.and_eq_true, decide_eq_true_eq, Bool.not_eq_true', decide_eq_false_iff_not] at hb
          have e1 : p1 = Sd21.triangle m tt v SA SB SD p := if_pos hb
          have e2 : Sd21.triangle m tt v SA SB SD p = Mx.rowsOf m tt v SA SB SD p := by
            rw [ht (by omega) p, if_neg (by omega), if_neg (by omega)]
          walk_at "rd"
          refine ⟨cv, tri, ap, ad, at_, wd, hd, m, tt, p, v, SA, SB, SD, by rw [hN]; rfl, hwd, hhd, hB, hT, gA, gB, gD, by omega, v0, v1, v2, v3, fun H' B' r' => ?_⟩
          rw [← e2, ← e1] at B'
          exact ⟨rfl, B', r', fun z => by omega⟩
        · rw [Bool.and_eq_false_iff, decide_eq_false_iff_not, Bool.not_eq_false', decide_eq_true_eq] at hb
          have e1 : p1 = p := if_neg (by omega)
          refine ⟨rfl, ?_, Rest.refl _ _, fun _ => rfl⟩
          rw [e1]
          exact hB
    · rintro σ H' ⟨rfl, B', r', hH⟩
      have cvs' := B'.cvs
      refine tt_and (decide (N < 0)) (!decide (m.side = 1)) (fun Q q => ?_) (fun _ Q q => ?_) ?_
      · walk_at "rd"
        exact q
      · walk_at "rd"
        exact q
      · refine iteB (fun hb => ?_) (fun hb => ?_)
        · rw [Bool.and_eq_true, decide_eq_true_eq, Bool.not_eq_true', decide_eq_false_iff_not] at hb
          have eH := hH hb.1
          subst eH
          have e1 : p1 = p := if_neg (by omega)
          have e2 : Sd21.triangle m tt v SA SB SD p = Mx.rowsOf m tt v SA SD SB p := by
            rw [ht (by omega) p, if_pos hb.1, if_pos hb.1]
          have e3 : Sd21.twice SA SD SB = -N := by rw [Mx.twice_swap, hN]
          obtain ⟨x, y, z, q, qx, qy, qz⟩ := hT.ex
          walk_at "rd"
          refine ⟨by show 3 ≤ sizeLine; decide, fun t2 ht2 => ?_⟩
          have s2 : Same H' (upd H' t2 (.lst [.ref x, .ref z, .ref y])) := Same.put_new ht2
          walk_at "rd"
          refine ⟨cv, t2, ap, ad, at_, wd, hd, m, tt, p, v, SA, SD, SB, by rw [e3]; rfl, hwd, hhd, hB.same s2, ⟨x, z, y, SqL.of upd_same, s2.seq qx, s2.seq qz, s2.seq qy⟩, gA, gD, gB, by omega, v0, v1, v2, v3, fun H2 B2 r2 => ?_⟩
          rw [← e2] at B2
          exact k H2 B2 (s2.rest.trans r2)
        · rw [Bool.and_eq_false_iff, decide_eq_false_iff_not, Bool.not_eq_false', decide_eq_true_eq] at hb
          refine k H' ?_ r'
          by_cases hc : 0 < N ∧ ¬ m.side = 2
          · have e1 : p1 = Sd21.triangle m tt v SA SB SD p := if_pos hc
            rw [← e1]
            exact B'
          · have e1 : p1 = p := if_neg hc
            rw [ho (by omega) p, ← e1]
            exact B'
end
end Dw


end
section
set_option Elab.async false
set_option linter.all false
set_option maxRecDepth 100000
set_option maxHeartbeats 4000000
namespace Dw
open PySem PySem.Spec PyProof.Rows L2 L3
local macro_rules | `(tactic| walk_at "side") => `(tactic| first
  | assumption
  | omega
  | exact Or.inl ⟨by omega, by omega⟩
  | exact Or.inr ⟨by omega, by omega⟩
  | exact ⟨by omega, by omega⟩
  | exact ⟨by omega, by omega, by omega⟩
  | decide)
local macro_rules | `(tactic| walk_at "rd1") => `(tactic| first
  | refine ⟨_, rfl, ?_⟩
  | refine ⟨_, _, rfl, rfl, ?_⟩
  | refine ⟨_, rfl, rfl, ?_⟩
  | refine L3.fld_ok (by assumption) (by assumption) (by decide) rfl ?_
  | refine ⟨_, _, _, _, rfl, rfl, (by assumption), (by rfl), ?_⟩
  | refine ⟨_, _, _, _, rfl, rfl, (by assumption), at_ints (by walk_at "side") (by walk_at "side"), ?_⟩
  | refine ⟨_, _, rfl, ?_⟩
  | refine And.intro (by walk_at "side") ?_)
local macro_rules | `(tactic| walk_at "rd") => `(tactic| repeat (walk_at "rd1"))
/-- a corner as the program's list -/
def cl (c : Sd21.Corner) : List Int := [c.x, c.y, c.z, c.w, c.r, c.g, c.b, c.a, c.u, c.v]
theorem cut_nat {α : Type} (f : α → V) (ns : List α) (a b : Nat) (h1 : a ≤ b) (h2 : b ≤ ns.length) : cutV (ns.map f) (some (a : Int)) (some (b : Int)) = ((ns.drop a).take (b - a)).map f := by
  unfold cutV
  rw [HT.sIx_nat, HT.sIx_nat, List.length_map, Nat.min_eq_left h2, Nat.min_eq_left (show a ≤ ns.length by omega), List.map_take, List.map_drop]
theorem take_get {ns : List Int} {a k : Nat} (h : a + k ≤ ns.length) : (ns.drop a).take k = (List.range k).map fun i => ns.getD (a + i) 0 := by
  apply List.ext_getElem?
  intro i
  by_cases hi : i < k
  · rw [List.getElem?_take, if_pos hi, List.getElem?_drop, List.getElem?_map, List.getElem?_range hi, List.getElem?_eq_getElem (by omega)]
    show _ = some (ns.getD (a + i) 0)
    rw [List.getD_eq_getElem?_getD, List.getElem?_eq_getElem (by omega)]
    rfl
  · rw [List.getElem?_take, if_neg hi, List.getElem?_eq_none (by simp; omega)]
theorem corner_cut {cs : List Int} {i : Nat} (h : 10 * i + 10 ≤ cs.length) : (cs.drop (10 * i)).take 10 = cl (Mx.cornerAt cs i) := by
  rw [take_get h]
  rfl
section
variable {P : Program} {w : World} {K : PySem.W.Frag} {mg : Str → Option Value} {base : Heap}
theorem sc_times : FnScope ["row", "place", "factor", "number"] ["row", "place"] (defScope s_times) := ⟨rfl, rfl, rfl, by decide +kernel, rfl, by decide +kernel, by decide +kernel⟩
def spTimes (K : PySem.W.Frag) : Sp := fun vs H Q _ => ∃ (a b : Addr) (p q r s x y z t : Int), vs = [.ref a, .ref b] ∧ LI K H a [p, q, r, s] ∧ LI K H b [x, y, z, t] ∧ Mx.Bd 16777215 p ∧ Mx.Bd 16777215 q ∧ Mx.Bd 16777215 r ∧ Mx.Bd 16777215 s ∧
  ∀ H', Same H H' → Q (.int (p * x + q * y + r * z + s * t)) H'
theorem ok_times {f : Addr} {fd : FuncData} (F : Fun K "times" "times" s_times f fd) (m_sum : mg "sum" = none) (m_zip : mg "zip" = none) : FnOk P w K mg base CX0 1 f fd ["row", "place"] (spTimes K) := by
  refine F.ok sc_times (fun vs H Q E h => ?_) (fun cdv A outer s H vs Q E hr h => ?_)
  · obtain ⟨_, _, _, _, _, _, _, _, _, _, rfl, _⟩ := h
    rfl
  · obtain ⟨a, b, p, q, r, s', x, y, z, t, rfl, ha, hb, bp, bq, br, bs, k⟩ := h
    refine ⟨_, (pss_one (ps_ret (L3.pcallB (L3.call_sumL rfl) m_sum rfl (L3.pac (L3.lcval rfl sc_times.nd (L3.pizip m_zip (L3.pac (pv 0) (L3.pac (pv 1) pa_nil))) (blkOk_by (own := [("factor", 2), ("number", 3)]) rfl) (fun _ _ _ _ _ => (L3.tgt2 (K := K) rfl (pg_name (i := 2) sc_times.nd rfl (Or.inl rfl) (Or.inr rfl)) (pg_name (i := 3) sc_times.nd rfl (Or.inl rfl) (Or.inr rfl)))) (fun _ _ _ _ _ => (pe_op op_mul (pv 2) (pv 3)))) pa_nil)))), ?_⟩
    refine ⟨_, rfl, _, rfl, a, b, _, _, rfl, ha, hb, fun D hD => ?_⟩
    refine lcm_zip (K := K) (fun i v _ => v = .int (([p, q, r, s'] : List Int).getD i 0 * ([x, y, z, t] : List Int).getD i 0)) hD ha hb rfl (by show 4 ≤ sizeLine; decide) (fun _ _ _ _ h _ => h) (fun i u v HH T Kt hu hv ss hT dl kt => ?_) (fun H2 ys s2 hL hl4 hY => ?_)
    · obtain ⟨n1, n2, rfl, rfl, e1, e2, bd⟩ : ∃ n1 n2 : Int, u = .int n1 ∧ v = .int n2 ∧ n1 = ([p, q, r, s'] : List Int).getD i 0 ∧ n2 = ([x, y, z, t] : List Int).getD i 0 ∧ Mx.Bd 16777215 n1 := by
        match i, hu, hv with
        | 0, hu, hv => cases hu; cases hv; exact ⟨_, _, rfl, rfl, rfl, rfl, bp⟩
        | 1, hu, hv => cases hu; cases hv; exact ⟨_, _, rfl, rfl, rfl, rfl, bq⟩
        | 2, hu, hv => cases hu; cases hv; exact ⟨_, _, rfl, rfl, rfl, rfl, br⟩
        | 3, hu, hv => cases hu; cases hv; exact ⟨_, _, rfl, rfl, rfl, rfl, bs⟩
        | i + 4, hu, _ => simp at hu
      unfold Mx.Bd at bd
      refine ⟨T, _, rfl, SqT.of hT, rfl, _, _, rfl, _, _, rfl, rfl, rfl, ?_⟩
      walk_at "rd"
      exact kt _ _ (Same.refl _) (by rw [e1, e2])
    have e4 : ys = ([p * x, q * y, r * z, s' * t] : List Int).map V.int := by
      rw [items_by hl4 hY]
      rfl
    subst e4
    refine ⟨D, _, rfl, SqL.of hL, ?_⟩
    have es : ([p * x, q * y, r * z, s' * t] : List Int).sum = p * x + q * y + r * z + s' * t := by
      simp only [List.sum_cons, List.sum_nil]
      omega
    rw [es]
    exact k H2 s2
theorem sc_moved_corner : FnScope ["m", "corner", "place", "start"] ["m", "corner"] (defScope s_moved_corner) := ⟨rfl, rfl, rfl, by decide +kernel, rfl, by decide +kernel, by decide +kernel⟩
def spMovedCorner (K : PySem.W.Frag) : Sp := fun vs H Q _ => ∃ (a b : Addr) (m : List Int) (c : Sd21.Corner), vs = [.ref a, .ref b] ∧ LI K H a m ∧ m.length = 16 ∧ (∀ z ∈ m, Mx.Bd 16777215 z) ∧ LI K H b (cl c) ∧ ∀ H' l, Same H H' → H l = none → H' l = some (.lst ((cl (Sd21.moved m c)).map V.int)) → Q (.ref l) H'
theorem ok_movedCorner {f : Addr} {fd : FuncData} (F : Fun K "moved_corner" "moved_corner" s_moved_corner f fd) (c_times : Can P w K mg base 1 "times" ["row", "place"] (spTimes K)) : FnOk P w K mg base CX0 2 f fd ["m", "corner"] (spMovedCorner K) := by
  refine F.ok sc_moved_corner (fun vs H Q E h => ?_) (fun cdv A outer s H vs Q E hr h => ?_)
  · obtain ⟨_, _, _, _, rfl, _⟩ := h
    rfl
  · obtain ⟨a, b, m, c, rfl, ha, hm, bm, hb, k⟩ := h
    refine ⟨_, (pss_cons (ps_set (i := 2) sc_moved_corner.nd rfl (Or.inr rfl) (L3.slL (K := K) (pv 1) po_none (po_some pe_int)))
      (pss_one (ps_ret (pe_op op_cat (L3.lcval rfl sc_moved_corner.nd (pi_tup (pe_tup (L3.pac pe_int (L3.pac pe_int (L3.pac pe_int (L3.pac pe_int pa_nil)))))) (blkOk_by (own := [("start", 3)]) rfl) (fun _ _ _ _ _ => (pg_name (i := 3) sc_moved_corner.nd rfl (Or.inl rfl) (Or.inr rfl))) (fun _ _ _ _ _ => (pe_op op_shr (L3.pcan c_times (hr.mono (by decide)) (L3.pac (L3.slL (K := K) (pv 0) (po_some (pv 3)) (po_some (pe_op op_add (pv 3) pe_int))) (L3.pac (pv 2) pa_nil))) pe_int))) (L3.slL (K := K) (pv 1) (po_some pe_int) po_none))))), ?_⟩
    walk_at "rd"
    refine ⟨b, _, rfl, hb, fun pl hpl => ?_⟩
    have e4 : cutV ((cl c).map V.int) none (some 4) = ([c.x, c.y, c.z, c.w] : List Int).map V.int := rfl
    rw [e4]
    have s1 : Same H (upd H pl (.lst (([c.x, c.y, c.z, c.w] : List Int).map V.int))) := Same.put_new hpl
    have l1 : LI K (upd H pl (.lst (([c.x, c.y, c.z, c.w] : List Int).map V.int))) pl [c.x, c.y, c.z, c.w] := SqL.of upd_same
    generalize upd H pl (.lst (([c.x, c.y, c.z, c.w] : List Int).map V.int)) = H1 at s1 l1
    walk_at "rd"
    intro tp htp
    have s2 : Same H1 (upd H1 tp (.tup [.int 0, .int 4, .int 8, .int 12])) := Same.put_new htp
    have l2 : SqT K (upd H1 tp (.tup [.int 0, .int 4, .int 8, .int 12])) tp [.int 0, .int 4, .int 8, .int 12] := SqT.of upd_same
    generalize upd H1 tp (.tup [.int 0, .int 4, .int 8, .int 12]) = H2 at s2 l2
    have s02 := s1.trans s2
    refine ⟨tp, rfl, ⟨_, l2⟩, fun D hD => ?_⟩
    refine lcm_tup (K := K) (fun i v _ => v = .int (([(Sd21.moved m c).x, (Sd21.moved m c).y, (Sd21.moved m c).z, (Sd21.moved m c).w] : List Int).getD i 0)) hD l2 (by show 4 ≤ sizeLine; decide) (fun _ _ _ _ h _ => h) (fun i v HH Kt hv ss dl kt => ?_) (fun H3 ys s3 hL hl4 hY => ?_)
    · obtain ⟨n, rfl, hn, en⟩ : ∃ n : Nat, v = .int ((4 * n : Nat) : Int) ∧ n < 4 ∧ n = i := by
        match i, hv with
        | 0, hv => cases hv; exact ⟨0, rfl, by omega, rfl⟩
        | 1, hv => cases hv; exact ⟨1, rfl, by omega, rfl⟩
        | 2, hv => cases hv; exact ⟨2, rfl, by omega, rfl⟩
        | 3, hv => cases hv; exact ⟨3, rfl, by omega, rfl⟩
        | i + 4, hv => simp at hv
      subst en
      have sH := s02.trans ss
      have ha3 := sH.seq ha
      refine ⟨rfl, ?_⟩
      walk_at "rd"
      refine ⟨a, _, rfl, ha3, fun pr hpr => ?_⟩
      have ec : cutV (m.map V.int) (some ((4 * n : Nat) : Int)) (some (((4 * n : Nat) : Int) + 4)) = ([m.getD (4 * n) 0, m.getD (4 * n + 1) 0, m.getD (4 * n + 2) 0, m.getD (4 * n + 3) 0] : List Int).map V.int := by
        rw [show ((4 * n : Nat) : Int) + 4 = ((4 * n + 4 : Nat) : Int) by omega, cut_nat V.int m (4 * n) (4 * n + 4) (by omega) (by omega), show 4 * n + 4 - 4 * n = 4 by omega, take_get (by omega)]
        rfl
      rw [ec]
      have s4 : Same HH (upd HH pr (.lst (([m.getD (4 * n) 0, m.getD (4 * n + 1) 0, m.getD (4 * n + 2) 0, m.getD (4 * n + 3) 0] : List Int).map V.int))) := Same.put_new hpr
      walk_at "rd"
      refine ⟨pr, pl, _, _, _, _, c.x, c.y, c.z, c.w, rfl, SqL.of upd_same, (s2.trans (ss.trans s4)).seq l1, Mx.getD_bd bm _, Mx.getD_bd bm _, Mx.getD_bd bm _, Mx.getD_bd bm _, fun H' s' => ?_⟩
      walk_at "rd"
      refine kt _ _ (s4.trans s') ?_
      match n, hn with
      | 0, _ => rfl
      | 1, _ => rfl
      | 2, _ => rfl
      | 3, _ => rfl
    have e5 : ys = ([(Sd21.moved m c).x, (Sd21.moved m c).y, (Sd21.moved m c).z, (Sd21.moved m c).w] : List Int).map V.int := by
      rw [items_by hl4 hY]
      rfl
    subst e5
    have hb3 := (s02.trans s3).seq hb
    walk_at "rd"
    refine ⟨b, _, rfl, hb3, fun pq hpq => ?_⟩
    have e6 : cutV ((cl c).map V.int) (some 4) none = ([c.r, c.g, c.b, c.a, c.u, c.v] : List Int).map V.int := rfl
    rw [e6]
    have s4 : Same H3 (upd H3 pq (.lst (([c.r, c.g, c.b, c.a, c.u, c.v] : List Int).map V.int))) := Same.put_new hpq
    refine ⟨D, pq, _, _, rfl, rfl, s4 _ _ hL, upd_same, by show 10 ≤ sizeLine; decide, fun l hl => ?_⟩
    have s05 := (s02.trans s3).trans s4
    exact k _ l (s05.trans (Same.put_new hl)) (s05.free hl) upd_same
/-- the corners cs stand in the list at l, each in a list of its own, all of them new since H0 -/
structure LL (K : PySem.W.Frag) (H0 H : Hp) (l : Addr) (cs : List Sd21.Corner) : Prop where
  ex : ∃ as : List Addr, H l = some (.lst (as.map V.ref)) ∧ as.length = cs.length ∧ ∀ (k : Nat) (a : Addr), as[k]? = some a → H0 a = none ∧ ∃ c, cs[k]? = some c ∧ H a = some (.lst ((cl c).map V.int))
theorem refs_of {ys : List V} (h : ∀ (i : Nat) (v : V), ys[i]? = some v → ∃ a : Addr, v = .ref a) : ∃ as : List Addr, ys = as.map V.ref := by
  have all : ∀ v ∈ ys, ∃ ad : Addr, v = .ref ad := fun v hv => by
    obtain ⟨i, hi, rfl⟩ := List.getElem_of_mem hv
    exact h i _ (List.getElem?_eq_getElem hi)
  clear h
  induction ys with
  | nil => exact ⟨[], rfl⟩
  | cons v ys ih =>
    obtain ⟨ad, rfl⟩ := all v List.mem_cons_self
    obtain ⟨ls, rfl⟩ := ih fun u hu => all u (List.mem_cons_of_mem _ hu)
    exact ⟨ad :: ls, rfl⟩
theorem sc_moved_corners : FnScope ["m", "corners", "starts", "start"] ["m", "corners"] (defScope s_moved_corners) := ⟨rfl, rfl, rfl, by decide +kernel, rfl, by decide +kernel, by decide +kernel⟩
def spMovedAll (K : PySem.W.Frag) : Sp := fun vs H Q _ => ∃ (a b : Addr) (m cs : List Int) (n : Nat), vs = [.ref a, .ref b] ∧ LI K H a m ∧ m.length = 16 ∧ (∀ z ∈ m, Mx.Bd 16777215 z) ∧ LI K H b cs ∧ cs.length = 10 * n ∧ n ≤ 4096 ∧
  ∀ H' l, Same H H' → H l = none → LL K H H' l ((List.range n).map fun i => Sd21.moved m (Mx.cornerAt cs i)) → Q (.ref l) H'
theorem rgc (c n : Nat) (h0 : 0 < c) (hc : c ≤ 1000) (h : n ≤ 100000) : RgC 0 ((c * n : Nat) : Int) (c : Int) n := by
  have hs : Builtin.Range.rangeSize 0 ((c * n : Nat) : Int) (c : Int) = n := by
    unfold Builtin.Range.rangeSize
    rw [if_pos (by omega)]
    by_cases hn : n = 0
    · subst hn
      rw [if_neg (by simp)]
      rfl
    · have hp : 0 < c * n := Nat.mul_pos h0 (by omega)
      rw [if_pos (by omega)]
      have e : (((c * n : Nat) : Int) - 0 - 1) / (c : Int) = (n : Int) - 1 := by
        refine Int.le_antisymm ?_ ?_
        · have : (((c * n : Nat) : Int) - 0 - 1) / (c : Int) < (n : Int) := by
            refine Int.ediv_lt_of_lt_mul (by omega) ?_
            rw [Int.natCast_mul, Int.mul_comm]
            omega
          omega
        · refine (Int.le_ediv_iff_mul_le (by omega)).mpr ?_
          rw [Int.natCast_mul, Int.sub_mul, Int.mul_comm (n : Int)]
          omega
      omega
  have hb : c * n ≤ 1000 * 100000 := Nat.mul_le_mul hc h
  refine ⟨by omega, by omega, ?_, hs⟩
  unfold Builtin.Range.small
  rw [hs]
  simp only [Builtin.Range.rangeFitsLong, Bool.and_eq_true, Bool.or_eq_true, decide_eq_true_eq, beq_iff_eq]
  rw [if_pos (by omega)]
  simp only [Bool.and_eq_true, decide_eq_true_eq]
  omega
theorem rgc10 (n : Nat) (h : n ≤ 4096) : RgC 0 ((10 * n : Nat) : Int) 10 n := rgc 10 n (by decide) (by decide) (by omega)
theorem ok_movedAll {f : Addr} {fd : FuncData} (F : Fun K "moved_corners" "moved_corners" s_moved_corners f fd) (m_CORNER_NUMBERS : Num mg "CORNER_NUMBERS" 10) (m_list : mg "list" = none) (m_range : mg "range" = none) (m_len : mg "len" = none)
    (c_moved_corner : Can P w K mg base 2 "moved_corner" ["m", "corner"] (spMovedCorner K)) : FnOk P w K mg base CX0 3 f fd ["m", "corners"] (spMovedAll K) := by
  refine F.ok sc_moved_corners (fun vs H Q E h => ?_) (fun cdv A outer s H vs Q E hr h => ?_)
  · obtain ⟨_, _, _, _, _, rfl, _⟩ := h
    rfl
  · obtain ⟨a, b, m, cs, n, rfl, ha, hm, bm, hb, hl, hn, k⟩ := h
    refine ⟨_, (pss_cons (ps_set (i := 2) sc_moved_corners.nd rfl (Or.inl rfl) (L3.pe_lrange rfl m_list m_range (L3.pac pe_int (L3.pac (L3.pcallB call_len_seq m_len PySem.boot_len (L3.pac (pv 1) pa_nil)) (L3.pac (L3.pnum m_CORNER_NUMBERS) pa_nil)))))
      (pss_one (ps_ret (L3.lcval rfl sc_moved_corners.nd (pi_list (pv 2)) (blkOk_by (own := [("start", 3)]) rfl) (fun _ _ _ _ _ => (pg_name (i := 3) sc_moved_corners.nd rfl (Or.inl rfl) (Or.inr rfl))) (fun _ _ _ _ _ => (L3.pcan c_moved_corner (hr.mono (by decide)) (L3.pac (pv 0) (L3.pac (L3.slL (K := K) (pv 1) (po_some (pv 3)) (po_some (pe_op op_add (pv 3) (L3.pnum m_CORNER_NUMBERS)))) pa_nil)))))))), ?_⟩
    walk_at "rd"
    refine ⟨b, _, rfl, .inl hb, ?_⟩
    rw [List.length_map, hl]
    walk_at "rd"
    refine ⟨0, ((10 * n : Nat) : Int), 10, n, rfl, rgc10 n hn, by omega, fun ps hps => ?_⟩
    have es : ((List.range n).map fun k : Nat => (0 : Int) + (k : Int) * 10) = (List.range n).map fun k : Nat => ((10 * k : Nat) : Int) := by
      apply List.map_congr_left
      intro k _
      omega
    rw [es]
    have s1 : Same H (upd H ps (.lst (((List.range n).map fun k : Nat => ((10 * k : Nat) : Int)).map V.int))) := Same.put_new hps
    have l1 : LI K (upd H ps (.lst (((List.range n).map fun k : Nat => ((10 * k : Nat) : Int)).map V.int))) ps ((List.range n).map fun k : Nat => ((10 * k : Nat) : Int)) := SqL.of upd_same
    generalize upd H ps (.lst (((List.range n).map fun k : Nat => ((10 * k : Nat) : Int)).map V.int)) = H1 at s1 l1
    have len1 : (((List.range n).map fun k : Nat => ((10 * k : Nat) : Int)).map V.int).length = n := by simp
    refine ⟨_, rfl, ps, rfl, ⟨_, l1⟩, fun D hD => ?_⟩
    refine lcm_list (K := K) (fun i v H' => ∃ ad : Addr, v = .ref ad ∧ ad ≠ D ∧ H ad = none ∧ H' ad = some (.lst ((cl (Sd21.moved m (Mx.cornerAt cs i))).map V.int))) hD l1 (by rw [len1, sizeLine_eq]; omega) (fun i v Ha Hb h r => ?_) (fun i v HH Kt hv ss dl kt => ?_) (fun H2 ys s2 hL hln hY => ?_)
    · obtain ⟨ad, e1, e2, e3, e4⟩ := h
      exact ⟨ad, e1, e2, e3, r _ _ (by simpa using e2) e4⟩
    · have hi : i < n := by have := (List.getElem?_eq_some_iff.mp hv).1; omega
      have ev : v = .int ((10 * i : Nat) : Int) := by
        rw [List.getElem?_map, List.getElem?_map, List.getElem?_range hi] at hv
        exact (Option.some.inj hv).symm
      subst ev
      have sH := s1.trans ss
      have ha3 := sH.seq ha
      have hb3 := sH.seq hb
      refine ⟨rfl, ?_⟩
      walk_at "rd"
      refine ⟨b, _, rfl, hb3, fun pc hpc => ?_⟩
      have ec : cutV (cs.map V.int) (some ((10 * i : Nat) : Int)) (some (((10 * i : Nat) : Int) + 10)) = (cl (Mx.cornerAt cs i)).map V.int := by
        rw [show ((10 * i : Nat) : Int) + 10 = ((10 * i + 10 : Nat) : Int) by omega, cut_nat V.int cs (10 * i) (10 * i + 10) (by omega) (by omega), show 10 * i + 10 - 10 * i = 10 by omega, corner_cut (by omega)]
      rw [ec]
      have s4 : Same HH (upd HH pc (.lst ((cl (Mx.cornerAt cs i)).map V.int))) := Same.put_new hpc
      refine ⟨a, pc, m, _, rfl, s4.seq ha3, hm, bm, SqL.of upd_same, fun H' l s' hl' hl2 => ?_⟩
      obtain ⟨acc, hacc⟩ := dl
      refine kt _ _ (s4.trans s') ⟨l, rfl, fun e => ?_, (sH.trans s4).free hl', hl2⟩
      rw [e, s4 _ _ hacc] at hl'
      cases hl'
    obtain ⟨as, rfl⟩ := refs_of fun i v hv => let ⟨ad, e, _⟩ := hY i v hv; ⟨ad, e⟩
    rw [List.length_map] at hln
    refine k H2 D (s1.trans s2) (s1.free hD) ⟨as, hL, by rw [hln, len1]; simp, fun kk ad hk => ?_⟩
    obtain ⟨ad', e1, _, e3, e4⟩ := hY kk (.ref ad) (by rw [List.getElem?_map, hk]; rfl)
    cases e1
    have hkn : kk < n := by have := (List.getElem?_eq_some_iff.mp hk).1; omega
    exact ⟨e3, _, by rw [List.getElem?_map, List.getElem?_range hkn]; rfl, e4⟩
theorem sc_is_in_front : FnScope ["corner"] ["corner"] (defScope s_is_in_front) := ⟨rfl, rfl, rfl, by decide +kernel, rfl, by decide +kernel, by decide +kernel⟩
def spFront (K : PySem.W.Frag) : Sp := fun vs H Q _ => ∃ (a : Addr) (c : Sd21.Corner), vs = [.ref a] ∧ LI K H a (cl c) ∧ Q (.bl (decide (4096 ≤ c.w))) H
theorem ok_front {f : Addr} {fd : FuncData} (F : Fun K "is_in_front" "is_in_front" s_is_in_front f fd) (m_CUT_W : Num mg "CUT_W" 4096) : FnOk P w K mg base CX0 1 f fd ["corner"] (spFront K) := by
  refine F.ok sc_is_in_front (fun vs H Q E h => ?_) (fun cdv A outer s H vs Q E hr h => ?_)
  · obtain ⟨_, _, rfl, _⟩ := h
    rfl
  · obtain ⟨a, c, rfl, ha, k⟩ := h
    refine ⟨_, (pss_one (ps_ret (pe_cmpR op_ge (L3.ixL (K := K) (pv 0) pe_int) (L3.pnum m_CUT_W) (nomark _)))), ?_⟩
    walk_at "rd"
    exact k
theorem sc_crossing : FnScope ["front", "behind", "t", "corner", "near", "far"] ["front", "behind"] (defScope s_crossing) := ⟨rfl, rfl, rfl, by decide +kernel, rfl, by decide +kernel, by decide +kernel⟩
def spCrossing (K : PySem.W.Frag) : Sp := fun vs H Q _ => ∃ (a b : Addr) (p q : Sd21.Corner), vs = [.ref a, .ref b] ∧ LI K H a (cl p) ∧ LI K H b (cl q) ∧ Mx.MidC p ∧ Mx.MidC q ∧ 4096 ≤ p.w ∧ q.w < 4096 ∧
  ∀ H' l, Same H H' → H l = none → H' l = some (.lst ((cl (Sd21.meets p q)).map V.int)) → Q (.ref l) H'
theorem ok_crossing {f : Addr} {fd : FuncData} (F : Fun K "crossing" "crossing" s_crossing f fd) (m_CUT_W : Num mg "CUT_W" 4096) (m_zip : mg "zip" = none) : FnOk P w K mg base CX0 1 f fd ["front", "behind"] (spCrossing K) := by
  refine F.ok sc_crossing (fun vs H Q E h => ?_) (fun cdv A outer s H vs Q E hr h => ?_)
  · obtain ⟨_, _, _, _, rfl, _⟩ := h
    rfl
  · obtain ⟨a, b, p, q, rfl, ha, hb, gp, gq, hp, hq, k⟩ := h
    have w1 := gp.w; have w2 := gq.w
    have tb := Mx.part_bd hp hq
    unfold Mx.Bd at w1 w2
    refine ⟨_, (pss_cons (ps_set (i := 2) sc_crossing.nd rfl (Or.inr rfl) (pe_op L3.op_div (pe_op op_mul (pe_op op_sub (L3.ixL (K := K) (pv 0) pe_int) (L3.pnum m_CUT_W)) pe_int) (pe_op op_sub (L3.ixL (K := K) (pv 0) pe_int) (L3.ixL (K := K) (pv 1) pe_int))))
      (pss_cons (L3.lcset (i := 3) rfl sc_crossing.nd rfl rfl rfl rfl rfl (L3.pizip m_zip (L3.pac (pv 0) (L3.pac (pv 1) pa_nil))) (blkOk_by (own := [("near", 4), ("far", 5)]) rfl) (fun _ _ _ _ _ => (L3.tgt2 (K := K) rfl (pg_name (i := 4) sc_crossing.nd rfl (Or.inl rfl) (Or.inr rfl)) (pg_name (i := 5) sc_crossing.nd rfl (Or.inl rfl) (Or.inr rfl)))) (fun _ _ _ _ _ => (pe_op op_add (pv 4) (pe_op op_shr (pe_op op_mul (pe_op op_sub (pv 5) (pv 4)) (pv 2)) pe_int))))
      (pss_cons (ps_asg (L3.pnum m_CUT_W) (pg_sub (pv 3) pe_int set_list))
      (pss_one (ps_ret (pv 3)))))), ?_⟩
    walk_at "rd"
    generalize et : (p.w - 4096) * 65536 / (p.w - q.w) = t at tb
    have et' : (fun i j : Int => V.int (i / j)) ((p.w - 4096) * 65536) (p.w - q.w) = .int t := congrArg V.int et
    rw [et']
    let on : Int → Int → Int := fun a b => a + Sd21.shr ((b - a) * t) 16
    let raw : List Int := [on p.x q.x, on p.y q.y, on p.z q.z, on p.w q.w, on p.r q.r, on p.g q.g, on p.b q.b, on p.a q.a, on p.u q.u, on p.v q.v]
    refine ⟨a, b, _, _, rfl, ha, hb, fun D hD => ?_⟩
    refine lcm_zip (K := K) (fun i v _ => v = .int (raw.getD i 0)) hD ha hb rfl (by show 10 ≤ sizeLine; decide) (fun _ _ _ _ h _ => h) (fun i u v HH T Kt hu hv ss hT dl kt => ?_) (fun H2 ys s2 hL hl4 hY => ?_)
    · obtain ⟨n1, n2, rfl, rfl, e1⟩ : ∃ n1 n2 : Int, u = .int n1 ∧ v = .int n2 ∧ on n1 n2 = raw.getD i 0 := by
        match i, hu, hv with
        | 0, hu, hv => cases hu; cases hv; exact ⟨_, _, rfl, rfl, rfl⟩
        | 1, hu, hv => cases hu; cases hv; exact ⟨_, _, rfl, rfl, rfl⟩
        | 2, hu, hv => cases hu; cases hv; exact ⟨_, _, rfl, rfl, rfl⟩
        | 3, hu, hv => cases hu; cases hv; exact ⟨_, _, rfl, rfl, rfl⟩
        | 4, hu, hv => cases hu; cases hv; exact ⟨_, _, rfl, rfl, rfl⟩
        | 5, hu, hv => cases hu; cases hv; exact ⟨_, _, rfl, rfl, rfl⟩
        | 6, hu, hv => cases hu; cases hv; exact ⟨_, _, rfl, rfl, rfl⟩
        | 7, hu, hv => cases hu; cases hv; exact ⟨_, _, rfl, rfl, rfl⟩
        | 8, hu, hv => cases hu; cases hv; exact ⟨_, _, rfl, rfl, rfl⟩
        | 9, hu, hv => cases hu; cases hv; exact ⟨_, _, rfl, rfl, rfl⟩
        | i + 10, hu, _ => simp [cl] at hu
      refine ⟨T, _, rfl, SqT.of hT, rfl, _, _, rfl, _, _, rfl, rfl, rfl, ?_⟩
      walk_at "rd"
      exact kt _ _ (Same.refl _) (by rw [← e1]; rfl)
    have e4 : ys = raw.map V.int := by
      rw [items_by hl4 hY]
      rfl
    subst e4
    walk_at "rd"
    refine k _ D (Same.putOff s2 hD) hD ?_
    have em : (raw.map V.int).set ((3 : Int).toNat) (.int 4096) = (cl (Sd21.meets p q)).map V.int := by
      subst et
      rfl
    rw [upd_same, em]
theorem sc_put_corner : FnScope ["w", "h", "corner", "own_w", "across", "down", "depth", "share"] ["w", "h", "corner"] (defScope s_put_corner) := ⟨rfl, rfl, rfl, by decide +kernel, rfl, by decide +kernel, by decide +kernel⟩
/-- a corner put on the picture, wherever it lies -/
def spot0 (wd hd : Nat) (c : Sd21.Corner) : Sd21.Spot := ⟨(wd : Int) * 8 + c.x * (wd : Int) * 8 / c.w, (hd : Int) * 8 - c.y * (hd : Int) * 8 / c.w, max 0 (min (2 ^ 24 - 1) ((2 ^ 23 : Int) + c.z * 2 ^ 23 / c.w)), max 1 (2 ^ 28 / c.w), c⟩
def farOut (s : Sd21.Spot) : Prop := s.x < -32768 ∨ 32768 < s.x ∨ s.y < -32768 ∨ 32768 < s.y
theorem spot_eq (wd hd : Nat) (c : Sd21.Corner) : (farOut (spot0 wd hd c) → Sd21.spot wd hd c = none) ∧ (¬ farOut (spot0 wd hd c) → Sd21.spot wd hd c = some (spot0 wd hd c)) := by
  constructor
  · intro h
    exact if_pos h
  · intro h
    exact if_neg h
def spPut (K : PySem.W.Frag) : Sp := fun vs H Q _ => ∃ (wd hd : Nat) (a : Addr) (c : Sd21.Corner), vs = [.int wd, .int hd, .ref a] ∧ wd ≤ 1024 ∧ hd ≤ 1024 ∧ LI K H a (cl c) ∧ Mx.FrontC c ∧ ∀ H' l, Same H H' → H l = none → H' l = some (.lst ((sl (spot0 wd hd c)).map V.int)) → Q (.ref l) H'
theorem ok_put {f : Addr} {fd : FuncData} (F : Fun K "put_corner" "put_corner" s_put_corner f fd) (m_MIDDLE_DEPTH : Num mg "MIDDLE_DEPTH" 8388608) (m_ONE_SHARE : Num mg "ONE_SHARE" 268435456) (m_FARTHEST_DEPTH : Num mg "FARTHEST_DEPTH" 16777215) (m_min : mg "min" = none) (m_max : mg "max" = none) :
    FnOk P w K mg base CX0 1 f fd ["w", "h", "corner"] (spPut K) := by
  refine F.ok sc_put_corner (fun vs H Q E h => ?_) (fun cdv A outer s H vs Q E hr h => ?_)
  · obtain ⟨_, _, _, _, rfl, _⟩ := h
    rfl
  · obtain ⟨wd, hd, a, c, rfl, hwd, hhd, ha, gc, k⟩ := h
    have w1 := gc.w; have w2 := gc.front
    unfold Mx.Bd at w1
    refine ⟨_, (pss_cons (ps_set (i := 3) sc_put_corner.nd rfl (Or.inl rfl) (L3.ixL (K := K) (pv 2) pe_int))
      (pss_cons (ps_set (i := 4) sc_put_corner.nd rfl (Or.inl rfl) (pe_op op_add (pe_op op_mul pe_int (pv 0)) (pe_op L3.op_div (pe_op op_mul (pe_op op_mul (L3.ixL (K := K) (pv 2) pe_int) (pv 0)) pe_int) (pv 3))))
      (pss_cons (ps_set (i := 5) sc_put_corner.nd rfl (Or.inl rfl) (pe_op op_sub (pe_op op_mul pe_int (pv 1)) (pe_op L3.op_div (pe_op op_mul (pe_op op_mul (L3.ixL (K := K) (pv 2) pe_int) (pv 1)) pe_int) (pv 3))))
      (pss_cons (ps_set (i := 6) sc_put_corner.nd rfl (Or.inl rfl) (pe_op op_add (L3.pnum m_MIDDLE_DEPTH) (pe_op L3.op_div (pe_op op_mul (L3.ixL (K := K) (pv 2) pe_int) (L3.pnum m_MIDDLE_DEPTH)) (pv 3))))
      (pss_cons (ps_set (i := 7) sc_put_corner.nd rfl (Or.inl rfl) (pe_op L3.op_div (L3.pnum m_ONE_SHARE) (pv 3)))
      (pss_one (ps_ret (pe_op op_cat (pe_lst (L3.pac (pv 4) (L3.pac (pv 5) (L3.pac (L3.pcallB (L3.call_minM rfl) m_min rfl (L3.pac (L3.pcallB (L3.call_maxM rfl) m_max rfl (L3.pac (pv 6) (L3.pac pe_int pa_nil))) (L3.pac (L3.pnum m_FARTHEST_DEPTH) pa_nil))) (L3.pac (L3.pcallB (L3.call_maxM rfl) m_max rfl (L3.pac (pv 7) (L3.pac pe_int pa_nil))) pa_nil))))) (L3.slL (K := K) (pv 2) (po_some pe_int) po_none))))))))), ?_⟩
    walk_at "rd"
    refine ⟨by show 4 ≤ sizeLine; decide, fun p1 hp1 => ?_⟩
    have en : ([V.int (8 * (wd : Int) + c.x * wd * 8 / c.w), V.int (8 * (hd : Int) - c.y * hd * 8 / c.w), V.int (min (max (8388608 + c.z * 8388608 / c.w) 0) 16777215), V.int (max (268435456 / c.w) 1)] : List V) =
        ([(spot0 wd hd c).x, (spot0 wd hd c).y, (spot0 wd hd c).z, (spot0 wd hd c).q] : List Int).map V.int := by
      have e1 : 8 * (wd : Int) + c.x * wd * 8 / c.w = (spot0 wd hd c).x := by
        show _ = (wd : Int) * 8 + c.x * (wd : Int) * 8 / c.w
        omega
      have e2 : 8 * (hd : Int) - c.y * hd * 8 / c.w = (spot0 wd hd c).y := by
        show _ = (hd : Int) * 8 - c.y * (hd : Int) * 8 / c.w
        omega
      have e3 : min (max (8388608 + c.z * 8388608 / c.w) 0) 16777215 = (spot0 wd hd c).z := by
        show _ = max (0 : Int) (min 16777215 (8388608 + c.z * 8388608 / c.w))
        omega
      have e4 : max (268435456 / c.w) 1 = (spot0 wd hd c).q := by
        show _ = max (1 : Int) (268435456 / c.w)
        omega
      rw [e1, e2, e3, e4]
      rfl
    have s1 : Same H (upd H p1 (.lst (([(spot0 wd hd c).x, (spot0 wd hd c).y, (spot0 wd hd c).z, (spot0 wd hd c).q] : List Int).map V.int))) := Same.put_new hp1
    have u1 : upd H p1 (.lst (([(spot0 wd hd c).x, (spot0 wd hd c).y, (spot0 wd hd c).z, (spot0 wd hd c).q] : List Int).map V.int)) p1 = some (.lst (([(spot0 wd hd c).x, (spot0 wd hd c).y, (spot0 wd hd c).z, (spot0 wd hd c).q] : List Int).map V.int)) := upd_same
    rw [← en] at s1 u1
    walk_at "rd"
    refine ⟨a, _, rfl, s1.seq ha, fun pq hpq => ?_⟩
    have e6 : cutV ((cl c).map V.int) (some 4) none = ([c.r, c.g, c.b, c.a, c.u, c.v] : List Int).map V.int := rfl
    rw [e6]
    refine ⟨p1, pq, _, _, rfl, rfl, Same.put_new hpq _ _ u1, upd_same, by show 10 ≤ sizeLine; decide, fun l hl => ?_⟩
    have s2 := Same.trans s1 (Same.put_new hpq (o := .lst (([c.r, c.g, c.b, c.a, c.u, c.v] : List Int).map V.int)))
    refine k _ l (s2.trans (Same.put_new hl)) (s2.free hl) ?_
    rw [upd_same, en]
    rfl
theorem sc_is_near : FnScope ["corner"] ["corner"] (defScope s_is_near) := ⟨rfl, rfl, rfl, by decide +kernel, rfl, by decide +kernel, by decide +kernel⟩
def spNear (K : PySem.W.Frag) : Sp := fun vs H Q _ => ∃ (a : Addr) (s : Sd21.Spot), vs = [.ref a] ∧ LI K H a (sl s) ∧ ∀ b : Bool, (b = true ↔ ¬ farOut s) → Q (.bl b) H
theorem ok_near {f : Addr} {fd : FuncData} (F : Fun K "is_near" "is_near" s_is_near f fd) (m_FARTHEST_PLACE : Num mg "FARTHEST_PLACE" 32768) (m_min : mg "min" = none) (m_max : mg "max" = none) : FnOk P w K mg base CX0 1 f fd ["corner"] (spNear K) := by
  refine F.ok sc_is_near (fun vs H Q E h => ?_) (fun cdv A outer s H vs Q E hr h => ?_)
  · obtain ⟨_, _, rfl, _⟩ := h
    rfl
  · obtain ⟨a, sp, rfl, ha, k⟩ := h
    refine ⟨_, (pss_one (ps_ret (pe_and (pe_cmpR op_le (pe_un un_neg (L3.pnum m_FARTHEST_PLACE)) (L3.pcallB (L3.call_minM rfl) m_min rfl (L3.pac (L3.ixL (K := K) (pv 0) pe_int) (L3.pac (L3.ixL (K := K) (pv 0) pe_int) pa_nil))) (nomark _)) (pe_one (pe_cmpR op_le (L3.pcallB (L3.call_maxM rfl) m_max rfl (L3.pac (L3.ixL (K := K) (pv 0) pe_int) (L3.pac (L3.ixL (K := K) (pv 0) pe_int) pa_nil))) (L3.pnum m_FARTHEST_PLACE) (nomark _)))))), ?_⟩
    walk_at "rd"
    unfold farOut at k
    refine iteB (fun h1 => ?_) (fun h1 => ?_)
    · have h1 := of_decide_eq_true h1
      walk_at "rd"
      refine k _ ?_
      rw [decide_eq_true_eq]
      omega
    · have h2 := of_decide_eq_false h1
      exact k _ (by simp only [Bool.false_eq_true, false_iff]; omega)
end
end Dw


end
section
set_option Elab.async false
set_option linter.all false
set_option maxRecDepth 100000
set_option maxHeartbeats 4000000
namespace Dw
open PySem PySem.Spec PyProof.Rows L2 L3
local macro_rules | `(tactic| walk_at "side") => `(tactic| first
  | assumption
  | omega
  | exact Or.inl ⟨by omega, by omega⟩
  | exact Or.inr ⟨by omega, by omega⟩
  | exact ⟨by omega, by omega⟩
  | exact ⟨by omega, by omega, by omega⟩
  | decide)
local macro_rules | `(tactic| walk_at "rd1") => `(tactic| first
  | refine ⟨_, rfl, ?_⟩
  | refine ⟨_, _, rfl, rfl, ?_⟩
  | refine ⟨_, rfl, rfl, ?_⟩
  | refine L3.fld_ok (by assumption) (by assumption) (by decide) rfl ?_
  | refine ⟨_, _, _, _, rfl, rfl, (by assumption), (by rfl), ?_⟩
  | refine ⟨_, _, _, _, rfl, rfl, (by assumption), at_ints (by walk_at "side") (by walk_at "side"), ?_⟩
  | refine ⟨_, _, rfl, ?_⟩
  | refine And.intro (by walk_at "side") ?_)
local macro_rules | `(tactic| walk_at "rd") => `(tactic| repeat (walk_at "rd1"))
section
variable {P : Program} {w : World} {K : PySem.W.Frag} {mg : Str → Option Value} {base : Heap}
/-- the corners cs so far -/
structure Kept (H : Hp) (x : Addr) (cs : List Sd21.Corner) : Prop where
  ex : ∃ ks : List Addr, H x = some (.lst (ks.map V.ref)) ∧ ks.length = cs.length ∧ ∀ (k : Nat) (a : Addr), ks[k]? = some a → ∃ c, cs[k]? = some c ∧ H a = some (.lst ((cl c).map V.int)) ∧ a ≠ x
theorem Kept.same {H H' : Hp} {x : Addr} {cs : List Sd21.Corner} (h : Kept H x cs) (e : Same H H') : Kept H' x cs := by
  obtain ⟨ks, h1, h2, h3⟩ := h.ex
  exact ⟨ks, e _ _ h1, h2, fun k a hk => let ⟨c, q1, q2, q3⟩ := h3 k a hk; ⟨c, q1, e _ _ q2, q3⟩⟩
theorem Kept.snoc {H : Hp} {x a : Addr} {cs : List Sd21.Corner} {c : Sd21.Corner} {ks : List Addr} (h1 : H x = some (.lst (ks.map V.ref))) (h2 : ks.length = cs.length) (h3 : ∀ (k : Nat) (a : Addr), ks[k]? = some a → ∃ c, cs[k]? = some c ∧ H a = some (.lst ((cl c).map V.int)) ∧ a ≠ x)
    (ha : H a = some (.lst ((cl c).map V.int))) (hn : a ≠ x) : Kept (upd H x (.lst (ks.map V.ref ++ [.ref a]))) x (cs ++ [c]) := by
  refine ⟨ks ++ [a], by rw [upd_same, List.map_append]; rfl, by simp [h2], fun k b hk => ?_⟩
  by_cases hl : k < ks.length
  · rw [List.getElem?_append_left hl] at hk
    obtain ⟨c', q1, q2, q3⟩ := h3 k b hk
    exact ⟨c', by rw [List.getElem?_append_left (by omega)]; exact q1, by rw [upd_ne q3]; exact q2, q3⟩
  · have ek : k = ks.length := by
      have := (List.getElem?_eq_some_iff.mp hk).1
      simp at this
      omega
    subst ek
    rw [List.getElem?_append_right (Nat.le_refl _), Nat.sub_self] at hk
    cases hk
    exact ⟨c, by rw [List.getElem?_append_right (by omega), h2, Nat.sub_self]; rfl, by rw [upd_ne hn]; exact ha, hn⟩
/-- what one edge gives -/
def edgeG (p q : Sd21.Corner) : List Sd21.Corner := if Sd21.NEAR ≤ p.w then (if Sd21.NEAR ≤ q.w then [p] else [p, Sd21.meets p q]) else (if Sd21.NEAR ≤ q.w then [Sd21.meets q p] else [])
theorem cut_three (a b c : Sd21.Corner) : Sd21.cut [a, b, c] = edgeG a b ++ (edgeG b c ++ (edgeG c a ++ [])) := rfl
def cutUp (a b c : Sd21.Corner) (n : Nat) : List Sd21.Corner := ((([(a, b), (b, c), (c, a)] : List (Sd21.Corner × Sd21.Corner)).take n).map fun e => edgeG e.1 e.2).flatten
theorem sc_cut_face : FnScope ["face", "kept", "first", "second"] ["face"] (defScope s_cut_face) := ⟨rfl, rfl, rfl, by decide +kernel, rfl, by decide +kernel, by decide +kernel⟩
def spCut (K : PySem.W.Frag) : Sp := fun vs H Q _ => ∃ (l a0 a1 a2 : Addr) (c0 c1 c2 : Sd21.Corner), vs = [.ref l] ∧ H l = some (.lst [.ref a0, .ref a1, .ref a2]) ∧ H a0 = some (.lst ((cl c0).map V.int)) ∧ H a1 = some (.lst ((cl c1).map V.int)) ∧ H a2 = some (.lst ((cl c2).map V.int)) ∧ Mx.MidC c0 ∧ Mx.MidC c1 ∧ Mx.MidC c2 ∧
  ∀ H' x, Same H H' → H x = none → Kept H' x (Sd21.cut [c0, c1, c2]) → Q (.ref x) H'
theorem ok_cut {f : Addr} {fd : FuncData} (F : Fun K "cut_face" "cut_face" s_cut_face f fd) (m_zip : mg "zip" = none) (c_is_in_front : Can P w K mg base 1 "is_in_front" ["corner"] (spFront K)) (c_crossing : Can P w K mg base 1 "crossing" ["front", "behind"] (spCrossing K)) : FnOk P w K mg base CX0 2 f fd ["face"] (spCut K) := by
  refine F.ok sc_cut_face (fun vs H Q E h => ?_) (fun cdv A outer s H vs Q E hr h => ?_)
  · obtain ⟨_, _, _, _, _, _, _, rfl, _⟩ := h
    rfl
  · obtain ⟨l, a0, a1, a2, c0, c1, c2, rfl, hl, h0, h1, h2, g0, g1, g2, k⟩ := h
    refine ⟨_, (pss_cons (ps_set (i := 1) sc_cut_face.nd rfl (Or.inl rfl) (pe_lst pa_nil))
      (L3.pss_cut (ps_for PassesOwn.never rfl (L3.pizip m_zip (L3.pac (pv 0) (L3.pac (pe_op op_cat (L3.slL (K := K) (pv 0) (po_some pe_int) po_none) (L3.slL (K := K) (pv 0) po_none (po_some pe_int))) pa_nil))) (L3.tgt2 (K := K) rfl (pg_name (i := 2) sc_cut_face.nd rfl (Or.inl rfl)) (pg_name (i := 3) sc_cut_face.nd rfl (Or.inl rfl)))
        (pss_one (ps_if (pt_val (L3.pcan c_is_in_front (hr.mono (by decide)) (L3.pac (pv 2) pa_nil)))
          (pss_cons (ps_expr (pe_bm PySem.F.plainAttrs_list PySem.F.slot_list_append PySem.F.type_list_append mt_append (pv 1) (L3.pac (pv 2) pa_nil)))
          (pss_one (ps_if (pt_not (pt_val (L3.pcan c_is_in_front (hr.mono (by decide)) (L3.pac (pv 3) pa_nil))))
            (pss_one (ps_expr (pe_bm PySem.F.plainAttrs_list PySem.F.slot_list_append PySem.F.type_list_append mt_append (pv 1) (L3.pac (L3.pcan c_crossing (hr.mono (by decide)) (L3.pac (pv 2) (L3.pac (pv 3) pa_nil))) pa_nil))))
            pss_nil)))
          (pss_one (ps_if (pt_val (L3.pcan c_is_in_front (hr.mono (by decide)) (L3.pac (pv 3) pa_nil)))
            (pss_one (ps_expr (pe_bm PySem.F.plainAttrs_list PySem.F.slot_list_append PySem.F.type_list_append mt_append (pv 1) (L3.pac (L3.pcan c_crossing (hr.mono (by decide)) (L3.pac (pv 3) (L3.pac (pv 2) pa_nil))) pa_nil))))
            pss_nil)))))
      (pss_one (ps_ret (pv 1))))), ?_⟩
    refine ⟨Nat.zero_le _, fun x hx => ?_⟩
    have s1 : Same H (upd H x (.lst [])) := Same.put_new hx
    have hx1 : upd H x (.lst []) x = some (.lst []) := upd_same
    generalize upd H x (.lst []) = H1 at s1 hx1
    have hl1 : SqL K H1 l [.ref a0, .ref a1, .ref a2] := SqL.of (s1 _ _ hl)
    refine ⟨fun σ' H' => (∃ o1 o2 : Option V, σ' = [some (.ref l), some (.ref x), o1, o2]) ∧ Same H H' ∧ Kept H' x (Sd21.cut [c0, c1, c2]), ?_, ?_⟩
    · walk_at "rd"
      refine ⟨l, _, rfl, hl1, fun p1 hp1 => ?_⟩
      have e1 : cutV [.ref a0, .ref a1, .ref a2] (some 1) none = [.ref a1, .ref a2] := rfl
      rw [e1]
      have s2 : Same H1 (upd H1 p1 (.lst [.ref a1, .ref a2])) := Same.put_new hp1
      have u1 : upd H1 p1 (.lst [.ref a1, .ref a2]) p1 = some (.lst [.ref a1, .ref a2]) := upd_same
      generalize upd H1 p1 (.lst [.ref a1, .ref a2]) = H2 at s2 u1
      have hl2 := s2.seq hl1
      walk_at "rd"
      refine ⟨l, _, rfl, hl2, fun p2 hp2 => ?_⟩
      have e2 : cutV [.ref a0, .ref a1, .ref a2] none (some 1) = [.ref a0] := rfl
      rw [e2]
      have s3 : Same H2 (upd H2 p2 (.lst [.ref a0])) := Same.put_new hp2
      refine ⟨p1, p2, _, _, rfl, rfl, s3 _ _ u1, upd_same, by show 3 ≤ sizeLine; decide, fun p3 hp3 => ?_⟩
      have s4 : Same (upd H2 p2 (.lst [.ref a0])) (upd (upd H2 p2 (.lst [.ref a0])) p3 (.lst ([.ref a1, .ref a2] ++ [.ref a0]))) := Same.put_new hp3
      have u3 : upd (upd H2 p2 (.lst [.ref a0])) p3 (.lst ([.ref a1, .ref a2] ++ [.ref a0])) p3 = some (.lst [.ref a1, .ref a2, .ref a0]) := upd_same
      have s14 := (s2.trans s3).trans s4
      generalize upd (upd H2 p2 (.lst [.ref a0])) p3 (.lst ([.ref a1, .ref a2] ++ [.ref a0])) = H4 at s14 u3
      have s04 := s1.trans s14
      have hx4 : H4 x = some (.lst []) := s14 _ _ hx1
      have np3 : p3 ≠ x := ne_of u3 hx4 (by intro z; cases z)
      refine ⟨l, p3, _, _, rfl, SqL.of (s04 _ _ hl), SqL.of u3, ?_⟩
      refine for_zip (K := K) (xs := [.ref a0, .ref a1, .ref a2]) (zs := [.ref a1, .ref a2, .ref a0]) (fun n σ' H' => (∃ o1 o2 : Option V, σ' = [some (.ref l), some (.ref x), o1, o2]) ∧ Same H H' ∧ H' p3 = some (.lst [.ref a1, .ref a2, .ref a0]) ∧ Kept H' x (cutUp c0 c1 c2 n))
        ⟨⟨none, none, rfl⟩, s04, u3, ⟨[], hx4, rfl, fun k a hk => by simp at hk⟩⟩ rfl (fun i σ H' _ h => ⟨SqL.of (h.2.1 _ _ hl), SqL.of h.2.2.1⟩) ?_ ?_
      · rintro n u v σ H5 T hu hv ⟨⟨o1, o2, rfl⟩, s05, u5, hk5⟩ hT
        obtain ⟨pa, qa, p, q, rfl, rfl, hp, hq, gp, gq, en⟩ : ∃ (pa qa : Addr) (p q : Sd21.Corner), u = .ref pa ∧ v = .ref qa ∧ H pa = some (.lst ((cl p).map V.int)) ∧ H qa = some (.lst ((cl q).map V.int)) ∧ Mx.MidC p ∧ Mx.MidC q ∧ cutUp c0 c1 c2 (n + 1) = cutUp c0 c1 c2 n ++ edgeG p q ∧ (cutUp c0 c1 c2 n).length ≤ 2 * n ∧ n < 3 := by
          have le2 : ∀ a b : Sd21.Corner, (edgeG a b).length ≤ 2 := fun a b => by
            unfold edgeG
            split <;> split <;> simp
          have e1 := le2 c0 c1
          have e2 := le2 c1 c2
          match n, hu, hv with
          | 0, hu, hv => cases hu; cases hv; exact ⟨a0, a1, c0, c1, rfl, rfl, h0, h1, g0, g1, by simp [cutUp], by simp [cutUp], by omega⟩
          | 1, hu, hv => cases hu; cases hv; exact ⟨a1, a2, c1, c2, rfl, rfl, h1, h2, g1, g2, by simp [cutUp], by simp [cutUp]; omega, by omega⟩
          | 2, hu, hv => cases hu; cases hv; exact ⟨a2, a0, c2, c0, rfl, rfl, h2, h0, g2, g0, by simp [cutUp], by simp [cutUp]; omega, by omega⟩
          | n + 3, hu, _ => simp at hu
        obtain ⟨en, len, hn3⟩ := en
        rw [en]
        have s6 : Same H5 (upd H5 T (.tup [.ref pa, .ref qa])) := Same.put_new hT
        have hk6 := hk5.same s6
        have s06 := Same.trans s05 s6
        have u6 := s6 _ _ u5
        have t6 : SqT K (upd H5 T (.tup [.ref pa, .ref qa])) T [.ref pa, .ref qa] := SqT.of upd_same
        generalize upd H5 T (.tup [.ref pa, .ref qa]) = H6 at s6 hk6 s06 u6 t6
        have npx : pa ≠ x := ne_of_none hp hx
        have nqx : qa ≠ x := ne_of_none hq hx
        have lp6 : LI K H6 pa (cl p) := SqL.of (s06 _ _ hp)
        have lq6 : LI K H6 qa (cl q) := SqL.of (s06 _ _ hq)
        refine ⟨T, _, rfl, t6, rfl, _, _, rfl, _, _, rfl, rfl, ?_⟩
        walk_at "rd"
        refine ⟨pa, p, rfl, lp6, ?_⟩
        walk_at "rd"
        have sl24 : (16777216 : Nat) = sizeLine := sizeLine_eq.symm
        refine iteD (fun f1 => ?_) (fun f1 => ?_)
        · obtain ⟨ks, k1, k2, k3⟩ := hk6.ex
          refine ⟨_, rfl, .inl ⟨rfl, _, SqL.of k1⟩, _, rfl, x, _, _, rfl, rfl, k1, by rw [List.length_map, k2]; omega, ?_⟩
          have hk7 := Kept.snoc k1 k2 k3 (s06 _ _ hp) npx
          have s07 : Same H (upd H6 x (.lst (ks.map V.ref ++ [.ref pa]))) := Same.putOff s06 hx
          have u7 : upd H6 x (.lst (ks.map V.ref ++ [.ref pa])) p3 = some (.lst [.ref a1, .ref a2, .ref a0]) := by rw [upd_ne np3]; exact u6
          generalize upd H6 x (.lst (ks.map V.ref ++ [.ref pa])) = H7 at hk7 s07 u7
          have lp7 : LI K H7 pa (cl p) := SqL.of (s07 _ _ hp)
          have lq7 : LI K H7 qa (cl q) := SqL.of (s07 _ _ hq)
          walk_at "rd"
          refine ⟨qa, q, rfl, lq7, ?_⟩
          walk_at "rd"
          by_cases f2 : 4096 ≤ q.w
          · have eg : edgeG p q = [p] := by
              unfold edgeG Sd21.NEAR
              rw [if_pos f1, if_pos f2]
            rw [decide_eq_true f2, eg]
            exact iteF ⟨⟨_, _, rfl⟩, s07, u7, hk7⟩
          · have eg : edgeG p q = [p] ++ [Sd21.meets p q] := by
              unfold edgeG Sd21.NEAR
              rw [if_pos f1, if_neg f2]
              rfl
            rw [decide_eq_false f2, eg, ← List.append_assoc]
            refine iteT ?_
            obtain ⟨ks7, j1, j2, j3⟩ := hk7.ex
            refine ⟨_, rfl, .inl ⟨rfl, _, SqL.of j1⟩, ?_⟩
            walk_at "rd"
            refine ⟨pa, qa, p, q, rfl, lp7, lq7, gp, gq, f1, by omega, fun H8 cx s8 hcx hcl => ?_⟩
            obtain ⟨ks8, i1, i2, i3⟩ := (hk7.same s8).ex
            have ncx : cx ≠ x := fun e => by rw [e, j1] at hcx; cases hcx
            refine ⟨x, _, _, rfl, rfl, i1, by rw [List.length_map, i2, List.length_append]; simp; omega, ?_⟩
            exact ⟨⟨_, _, rfl⟩, Same.putOff (s07.trans s8) hx, by rw [upd_ne np3]; exact s8 _ _ u7, Kept.snoc i1 i2 i3 hcl ncx⟩
        · walk_at "rd"
          refine ⟨qa, q, rfl, lq6, ?_⟩
          walk_at "rd"
          refine iteD (fun f2 => ?_) (fun f2 => ?_)
          · have eg : edgeG p q = [Sd21.meets q p] := by
              unfold edgeG Sd21.NEAR
              rw [if_neg f1, if_pos f2]
            rw [eg]
            obtain ⟨ks6, j1, j2, j3⟩ := hk6.ex
            refine ⟨_, rfl, .inl ⟨rfl, _, SqL.of j1⟩, ?_⟩
            walk_at "rd"
            refine ⟨qa, pa, q, p, rfl, lq6, lp6, gq, gp, f2, by omega, fun H8 cx s8 hcx hcl => ?_⟩
            obtain ⟨ks8, i1, i2, i3⟩ := (hk6.same s8).ex
            have ncx : cx ≠ x := fun e => by rw [e, j1] at hcx; cases hcx
            refine ⟨x, _, _, rfl, rfl, i1, by rw [List.length_map, i2]; omega, ?_⟩
            exact ⟨⟨_, _, rfl⟩, Same.putOff (s06.trans s8) hx, by rw [upd_ne np3]; exact s8 _ _ u6, Kept.snoc i1 i2 i3 hcl ncx⟩
          · have eg : edgeG p q = [] := by
              unfold edgeG Sd21.NEAR
              rw [if_neg f1, if_neg f2]
            rw [eg, List.append_nil]
            exact ⟨⟨_, _, rfl⟩, s06, u6, hk6⟩
      · rintro σ H' ⟨h1, h2, _, h3⟩
        have e3 : cutUp c0 c1 c2 3 = Sd21.cut [c0, c1, c2] := by
          rw [cut_three]
          rfl
        rw [← e3]
        exact ⟨h1, h2, h3⟩
    · rintro σ H' ⟨⟨o1, o2, rfl⟩, s', hk'⟩
      walk_at "rd"
      exact k H' x s' hx hk'
/-! the triangles of a face -/
abbrev T3 := Sd21.Spot × Sd21.Spot × Sd21.Spot
def trisOf (ss : List Sd21.Spot) (d : Sd21.Spot) : List T3 := (List.range (ss.length - 2)).map fun k => (ss.getD 0 d, ss.getD (k + 1) d, ss.getD (k + 2) d)
open Classical in
noncomputable def faceTris (wd hd : Nat) (cs : List Sd21.Corner) (d : Sd21.Spot) : List T3 := if ∀ c ∈ cs, ¬ farOut (spot0 wd hd c) then trisOf (cs.map (spot0 wd hd)) d else []
theorem mapM_near {wd hd : Nat} : ∀ {cs : List Sd21.Corner}, (∀ c ∈ cs, ¬ farOut (spot0 wd hd c)) → cs.mapM (Sd21.spot wd hd) = some (cs.map (spot0 wd hd))
  | [], _ => rfl
  | c :: cs, h => by
    rw [List.mapM_cons, (spot_eq wd hd c).2 (h c List.mem_cons_self), mapM_near fun x hx => h x (List.mem_cons_of_mem _ hx)]
    rfl
theorem mapM_far {wd hd : Nat} : ∀ {cs : List Sd21.Corner}, (∃ c ∈ cs, farOut (spot0 wd hd c)) → cs.mapM (Sd21.spot wd hd) = none
  | [], h => by
    obtain ⟨c, hc, _⟩ := h
    cases hc
  | c :: cs, h => by
    rw [List.mapM_cons]
    by_cases hc : farOut (spot0 wd hd c)
    · rw [(spot_eq wd hd c).1 hc]
      rfl
    · rw [(spot_eq wd hd c).2 hc]
      obtain ⟨x, hx, hf⟩ := h
      rcases List.mem_cons.mp hx with rfl | hx
      · exact absurd hf hc
      · rw [mapM_far ⟨x, hx, hf⟩]
        rfl
theorem zip_range {α : Type} (d : α) : ∀ (b : α) (r : List α), (b :: r).zip r = (List.range r.length).map fun k => ((b :: r).getD k d, r.getD k d)
  | b, [] => rfl
  | b, c :: r => by
    rw [List.zip_cons_cons, zip_range d c r, List.length_cons, List.range_succ_eq_map, List.map_cons, List.map_map]
    rfl
theorem face_eq (m : List Int) (mode : Sd21.Mode) (t : List Nat) (v : Sd21.Window) (l : List Sd21.Corner) (p : Sd21.Picture) (d : Sd21.Spot) :
    Sd21.face m mode t v l p = (faceTris p.width p.height (Sd21.cut (l.map (Sd21.moved m))) d).foldl (fun p e => Sd21.triangle mode t v e.1 e.2.1 e.2.2 p) p := by
  unfold Sd21.face faceTris
  generalize Sd21.cut (l.map (Sd21.moved m)) = cs
  by_cases h : ∀ c ∈ cs, ¬ farOut (spot0 p.width p.height c)
  · rw [if_pos h, mapM_near h]
    match cs with
    | [] => rfl
    | [c] => rfl
    | a :: b :: r =>
      show (((spot0 p.width p.height b :: r.map (spot0 p.width p.height)).zip (r.map (spot0 p.width p.height))).foldl (fun q e => Sd21.triangle mode t v (spot0 p.width p.height a) e.1 e.2 q) p) = _
      rw [zip_range d]
      unfold trisOf
      rw [List.foldl_map, List.foldl_map]
      simp only [List.length_cons, List.length_map]
      rfl
  · rw [if_neg h, mapM_far (by simpa using h)]
    rfl
/-- a triangle's list and its corners' lists, new since H0 -/
structure TriF (H0 H : Hp) (t : Addr) (e : T3) : Prop where
  ex : ∃ x y z : Addr, H0 t = none ∧ H0 x = none ∧ H0 y = none ∧ H0 z = none ∧ H t = some (.lst [.ref x, .ref y, .ref z]) ∧ H x = some (.lst ((sl e.1).map V.int)) ∧ H y = some (.lst ((sl e.2.1).map V.int)) ∧ H z = some (.lst ((sl e.2.2).map V.int))
theorem TriF.tri {H0 H : Hp} {t : Addr} {e : T3} (h : TriF H0 H t e) : Tri K H t e.1 e.2.1 e.2.2 := let ⟨x, y, z, _, _, _, _, q, q1, q2, q3⟩ := h.ex; ⟨x, y, z, SqL.of q, SqL.of q1, SqL.of q2, SqL.of q3⟩
theorem TriF.rest {H0 H H' : Hp} {t : Addr} {e : T3} {xs : List Addr} (h : TriF H0 H t e) (r : Rest xs H H') (hx : ∀ a ∈ xs, H0 a ≠ none) : TriF H0 H' t e := by
  obtain ⟨x, y, z, n0, n1, n2, n3, q, q1, q2, q3⟩ := h.ex
  have off : ∀ a : Addr, H0 a = none → a ∉ xs := fun a ha hm => hx a hm ha
  exact ⟨x, y, z, n0, n1, n2, n3, r _ _ (off _ n0) q, r _ _ (off _ n1) q1, r _ _ (off _ n2) q2, r _ _ (off _ n3) q3⟩
theorem sc_face_triangles : FnScope ["w", "h", "face", "corners", "corner", "k"] ["w", "h", "face"] (defScope s_face_triangles) := ⟨rfl, rfl, rfl, by decide +kernel, rfl, by decide +kernel, by decide +kernel⟩
def spFaceTri (d : Sd21.Spot) : Sp := fun vs H Q _ => ∃ (wd hd : Nat) (l a0 a1 a2 : Addr) (c0 c1 c2 : Sd21.Corner), vs = [.int wd, .int hd, .ref l] ∧ wd ≤ 1024 ∧ hd ≤ 1024 ∧ H l = some (.lst [.ref a0, .ref a1, .ref a2]) ∧ H a0 = some (.lst ((cl c0).map V.int)) ∧ H a1 = some (.lst ((cl c1).map V.int)) ∧ H a2 = some (.lst ((cl c2).map V.int)) ∧
  Mx.MidC c0 ∧ Mx.MidC c1 ∧ Mx.MidC c2 ∧ ∀ H' x (ts : List Addr), Same H H' → H x = none → H' x = some (.lst (ts.map V.ref)) → ts.length = (faceTris wd hd (Sd21.cut [c0, c1, c2]) d).length →
    (∀ (k : Nat) (t : Addr), ts[k]? = some t → ∃ e, (faceTris wd hd (Sd21.cut [c0, c1, c2]) d)[k]? = some e ∧ TriF H H' t e) → Q (.ref x) H'
theorem ok_faceTri {f : Addr} {fd : FuncData} (d : Sd21.Spot) (F : Fun K "face_triangles" "face_triangles" s_face_triangles f fd) (m_all : mg "all" = none) (m_range : mg "range" = none) (m_len : mg "len" = none) (c_cut_face : Can P w K mg base 2 "cut_face" ["face"] (spCut K))
    (c_put_corner : Can P w K mg base 1 "put_corner" ["w", "h", "corner"] (spPut K)) (c_is_near : Can P w K mg base 1 "is_near" ["corner"] (spNear K)) : FnOk P w K mg base CX0 3 f fd ["w", "h", "face"] (spFaceTri d) := by
  refine F.ok sc_face_triangles (fun vs H Q E h => ?_) (fun cdv A outer s H vs Q E hr h => ?_)
  · obtain ⟨_, _, _, _, _, _, _, _, _, rfl, _⟩ := h
    rfl
  · obtain ⟨wd, hd, l, a0, a1, a2, c0, c1, c2, rfl, hwd, hhd, hl, h0, h1, h2, g0, g1, g2, k⟩ := h
    have fr : ∀ c ∈ Sd21.cut [c0, c1, c2], Mx.FrontC c := Mx.cut_front fun c hc => by
      have hc' : c = c0 ∨ c = c1 ∨ c = c2 := by simpa using hc
      rcases hc' with rfl | rfl | rfl
      · exact g0
      · exact g1
      · exact g2
    have le6 : (Sd21.cut [c0, c1, c2]).length ≤ 6 := by
      have le2 : ∀ a b : Sd21.Corner, (edgeG a b).length ≤ 2 := fun a b => by
        unfold edgeG
        split <;> split <;> simp
      have e1 := le2 c0 c1; have e2 := le2 c1 c2; have e3 := le2 c2 c0
      rw [cut_three]
      simp
      omega
    refine ⟨_, (pss_cons (ps_set (i := 3) sc_face_triangles.nd rfl (Or.inr rfl) (L3.lcval rfl sc_face_triangles.nd (pi_list (L3.pcan c_cut_face (hr.mono (by decide)) (L3.pac (pv 2) pa_nil))) (blkOk_by (own := [("corner", 4)]) rfl) (fun _ _ _ _ _ => (pg_name (i := 4) sc_face_triangles.nd rfl (Or.inl rfl) (Or.inr rfl))) (fun _ _ _ _ _ => (L3.pcan c_put_corner (hr.mono (by decide)) (L3.pac (pv 0) (L3.pac (pv 1) (L3.pac (pv 4) pa_nil)))))))
      (pss_cons (ps_if (pt_not (pt_val (L3.pcallB (L3.call_allL rfl) m_all rfl (L3.pac (L3.lcval rfl sc_face_triangles.nd (pi_list (pv 3)) (blkOk_by (own := [("corner", 4)]) rfl) (fun _ _ _ _ _ => (pg_name (i := 4) sc_face_triangles.nd rfl (Or.inl rfl) (Or.inr rfl))) (fun _ _ _ _ _ => (L3.pcan c_is_near (hr.mono (by decide)) (L3.pac (pv 4) pa_nil)))) pa_nil))))
        (pss_one (ps_ret (pe_lst pa_nil)))
        pss_nil)
      (pss_one (ps_ret (L3.lcval rfl sc_face_triangles.nd (pi_range2 rfl m_range (L3.pac pe_int (L3.pac (pe_op op_sub (L3.pcallB call_len_seq m_len PySem.boot_len (L3.pac (pv 3) pa_nil)) pe_int) pa_nil))) (blkOk_by (own := [("k", 5)]) rfl) (fun _ _ _ _ _ => (pg_name (i := 5) sc_face_triangles.nd rfl (Or.inl rfl) (Or.inr rfl))) (fun _ _ _ _ _ => (pe_lst (L3.pac (L3.ixL (K := K) (pv 3) pe_int) (L3.pac (L3.ixL (K := K) (pv 3) (pv 5)) (L3.pac (L3.ixL (K := K) (pv 3) (pe_op op_add (pv 5) pe_int)) pa_nil)))))))))), ?_⟩
    walk_at "rd"
    refine ⟨l, a0, a1, a2, c0, c1, c2, rfl, hl, h0, h1, h2, g0, g1, g2, fun H1 x s1 hx hk => ?_⟩
    generalize Sd21.cut [c0, c1, c2] = cs at k fr le6 hk
    obtain ⟨ks, k1, k2, k3⟩ := hk.ex
    have sz : sizeLine = 16777216 := sizeLine_eq
    have lenk : (ks.map V.ref).length = cs.length := by rw [List.length_map, k2]
    refine ⟨x, rfl, ⟨_, SqL.of k1⟩, fun D hD => ?_⟩
    refine lcm_list (K := K) (fun i v H' => ∃ (ad : Addr) (c : Sd21.Corner), v = .ref ad ∧ ad ≠ D ∧ H ad = none ∧ cs[i]? = some c ∧ H' ad = some (.lst ((sl (spot0 wd hd c)).map V.int))) hD (SqL.of k1) (by rw [lenk]; omega) (fun i v Ha Hb h r => ?_) (fun i v HH Kt hv ss dl kt => ?_) (fun H2 ys s2 hL hln hY => ?_)
    · obtain ⟨ad, c, e1, e2, e3, e4, e5⟩ := h
      exact ⟨ad, c, e1, e2, e3, e4, r _ _ (by simpa using e2) e5⟩
    · rw [List.getElem?_map] at hv
      cases ea : ks[i]? with
      | none => rw [ea] at hv; cases hv
      | some a =>
        rw [ea] at hv
        cases hv
        obtain ⟨c, q1, q2, _⟩ := k3 i a ea
        refine ⟨rfl, ?_⟩
        walk_at "rd"
        refine ⟨wd, hd, a, c, rfl, hwd, hhd, SqL.of (ss _ _ q2), fr c (List.mem_of_getElem? q1), fun H' ll s' hll hv' => ?_⟩
        obtain ⟨acc, hacc⟩ := dl
        refine kt _ _ s' ⟨ll, c, rfl, fun e => ?_, (s1.trans ss).free hll, q1, hv'⟩
        rw [e, hacc] at hll
        cases hll
    obtain ⟨as, rfl⟩ := refs_of fun i v hv => let ⟨ad, _, e, _⟩ := hY i v hv; ⟨ad, e⟩
    rw [List.length_map] at hln
    have lena : as.length = cs.length := by rw [hln, lenk]
    have hA : ∀ (i : Nat) (a : Addr), as[i]? = some a → a ≠ D ∧ H a = none ∧ ∃ c, cs[i]? = some c ∧ H2 a = some (.lst ((sl (spot0 wd hd c)).map V.int)) := fun i a ha => by
      obtain ⟨ad, c, e1, e2, e3, e4, e5⟩ := hY i (.ref a) (by rw [List.getElem?_map, ha]; rfl)
      cases e1
      exact ⟨e2, e3, c, e4, e5⟩
    have s02 := s1.trans s2
    have fD : H D = none := s1.free hD
    clear hY hln
    -- is each of them near?
    refine ⟨_, rfl, D, rfl, ⟨_, SqL.of hL⟩, fun D2 hD2 => ?_⟩
    refine lcm_list (K := K) (fun i v _ => ∃ (b : Bool) (c : Sd21.Corner), v = .bl b ∧ cs[i]? = some c ∧ (b = true ↔ ¬ farOut (spot0 wd hd c))) hD2 (SqL.of hL) (by rw [List.length_map, lena]; omega) (fun _ _ _ _ h _ => h) (fun i v HH Kt hv ss dl kt => ?_) (fun H3 ys s3 hL3 hln hY => ?_)
    · rw [List.getElem?_map] at hv
      cases ea : as[i]? with
      | none => rw [ea] at hv; cases hv
      | some a =>
        rw [ea] at hv
        cases hv
        obtain ⟨_, _, c, q1, q2⟩ := hA i a ea
        refine ⟨rfl, ?_⟩
        walk_at "rd"
        exact ⟨a, _, rfl, SqL.of (ss _ _ q2), fun b hb => kt _ _ (Same.refl _) ⟨b, c, rfl, q1, hb⟩⟩
    obtain ⟨bs, rfl⟩ : ∃ bs : List Bool, ys = bs.map V.bl := by
      have all : ∀ v ∈ ys, ∃ b : Bool, v = .bl b := fun v hv => by
        obtain ⟨i, hi, rfl⟩ := List.getElem_of_mem hv
        obtain ⟨b, _, e, _⟩ := hY i _ (List.getElem?_eq_getElem hi)
        exact ⟨b, e⟩
      clear hY hL3 hln
      induction ys with
      | nil => exact ⟨[], rfl⟩
      | cons v ys ih =>
        obtain ⟨b, rfl⟩ := all v List.mem_cons_self
        obtain ⟨bs, rfl⟩ := ih fun u hu => all u (List.mem_cons_of_mem _ hu)
        exact ⟨b :: bs, rfl⟩
    rw [List.length_map, List.length_map] at hln
    have hall : bs.all id = true ↔ ∀ c ∈ cs, ¬ farOut (spot0 wd hd c) := by
      rw [List.all_eq_true]
      constructor
      · intro hb c hc
        obtain ⟨i, hi, rfl⟩ := List.getElem_of_mem hc
        have hib : i < bs.length := by omega
        obtain ⟨b, c', e1, e2, e3⟩ := hY i (.bl bs[i]) (by rw [List.getElem?_map, List.getElem?_eq_getElem hib]; rfl)
        cases e1
        rw [List.getElem?_eq_getElem hi] at e2
        cases e2
        exact e3.mp (hb _ (List.getElem_mem hib))
      · intro hc b hb
        obtain ⟨i, hi, rfl⟩ := List.getElem_of_mem hb
        obtain ⟨b, c', e1, e2, e3⟩ := hY i (.bl bs[i]) (by rw [List.getElem?_map, List.getElem?_eq_getElem hi]; rfl)
        cases e1
        exact e3.mpr (hc c' (List.mem_of_getElem? e2))
    have s03 := s02.trans s3
    clear hY
    refine ⟨D2, bs, rfl, SqL.of hL3, ?_⟩
    walk_at "rd"
    by_cases hb : bs.all id = true
    · have hn := hall.mp hb
      have eT : faceTris wd hd cs d = trisOf (cs.map (spot0 wd hd)) d := if_pos hn
      rw [hb]
      refine iteF ?_
      rw [eT] at k
      have hD3 : H3 D = some (.lst (as.map V.ref)) := s3 _ _ hL
      have lD3 : SqL K H3 D (as.map V.ref) := SqL.of hD3
      walk_at "rd"
      refine ⟨D, _, rfl, .inl lD3, ?_⟩
      rw [List.length_map, lena]
      walk_at "rd"
      intro D4 hD4
      have at_ : ∀ (HH : Hp) (z : Int) (n : Nat), Same H3 HH → z = n → n < cs.length → ∃ a : Addr, as[n]? = some a ∧ atI (as.map V.ref) z = some (.ref a) := fun HH z n _ ez hn => by
        have ea : as[n]? = some (as[n]'(by omega)) := List.getElem?_eq_getElem (by omega)
        exact ⟨_, ea, by rw [ez]; exact atI_nat (by rw [List.getElem?_map, ea]; rfl)⟩
      refine lcm_range (fun i v H' => ∃ t x y z : Addr, v = .ref t ∧ t ≠ D4 ∧ H t = none ∧ H' t = some (.lst [.ref x, .ref y, .ref z]) ∧ as[0]? = some x ∧ as[i + 1]? = some y ∧ as[i + 2]? = some z) hD4 (by omega) (fun i v Ha Hb h r => ?_) (fun i HH Kt hi ss dl kt => ?_) (fun H5 ys s5 hL5 hln hY => ?_)
      · obtain ⟨t, x, y, z, e1, e2, e3, e4, e5⟩ := h
        exact ⟨t, x, y, z, e1, e2, e3, r _ _ (by simpa using e2) e4, e5⟩
      · obtain ⟨x, ex, fx⟩ := at_ HH 0 0 ss rfl (by omega)
        obtain ⟨y, ey, fy⟩ := at_ HH (1 + (i : Int)) (i + 1) ss (by omega) (by omega)
        obtain ⟨z, ez, fz⟩ := at_ HH (1 + (i : Int) + 1) (i + 2) ss (by omega) (by omega)
        have lD := ss.seq lD3
        refine ⟨rfl, ?_⟩
        refine ⟨_, rfl, D, _, _, _, rfl, rfl, lD, fx, _, rfl, _, rfl, D, _, _, _, rfl, rfl, lD, fy, _, rfl, _, rfl, _, _, rfl, rfl, D, _, _, _, rfl, rfl, lD, fz, ?_⟩
        refine ⟨by show 3 ≤ sizeLine; decide, fun t ht => ?_⟩
        obtain ⟨acc, hacc⟩ := dl
        refine kt _ _ (Same.put_new ht) ⟨t, x, y, z, rfl, fun e => ?_, (s03.trans ss).free ht, upd_same, ex, ey, ez⟩
        rw [e, hacc] at ht
        cases ht
      obtain ⟨ts, rfl⟩ := refs_of fun i v hv => let ⟨t, _, _, _, e, _⟩ := hY i v hv; ⟨t, e⟩
      rw [List.length_map] at hln
      have lenT : (trisOf (cs.map (spot0 wd hd)) d).length = ((cs.length : Int) - 1 - 1).toNat := by
        unfold trisOf
        rw [List.length_map, List.length_range, List.length_map]
        omega
      refine k H5 D4 ts (s03.trans s5) (s03.free hD4) hL5 (by rw [hln, lenT]) fun kk t hk => ?_
      obtain ⟨t', x, y, z, e1, _, e3, e4, e5, e6, e7⟩ := hY kk (.ref t) (by rw [List.getElem?_map, hk]; rfl)
      cases e1
      obtain ⟨_, fx, cx, gx, ux⟩ := hA _ _ e5
      obtain ⟨_, fy, cy, gy, uy⟩ := hA _ _ e6
      obtain ⟨_, fz, cz, gz, uz⟩ := hA _ _ e7
      have hkk : kk < cs.length - 2 := by have := (List.getElem?_eq_some_iff.mp hk).1; omega
      have gD : ∀ {n : Nat} {c : Sd21.Corner}, cs[n]? = some c → (cs.map (spot0 wd hd)).getD n d = spot0 wd hd c := fun {n c} hc => by
        rw [List.getD_eq_getElem?_getD, List.getElem?_map, hc]
        rfl
      refine ⟨(spot0 wd hd cx, spot0 wd hd cy, spot0 wd hd cz), ?_, ⟨x, y, z, e3, fx, fy, fz, e4, s5 _ _ (s3 _ _ ux), s5 _ _ (s3 _ _ uy), s5 _ _ (s3 _ _ uz)⟩⟩
      unfold trisOf
      rw [List.getElem?_map, List.length_map, List.getElem?_range hkk]
      show some ((cs.map (spot0 wd hd)).getD 0 d, (cs.map (spot0 wd hd)).getD (kk + 1) d, (cs.map (spot0 wd hd)).getD (kk + 2) d) = _
      rw [gD gx, gD gy, gD gz]
    · have eT : faceTris wd hd cs d = [] := if_neg fun z => hb (hall.mpr z)
      have hbf : bs.all id = false := by
        cases e : bs.all id with
        | true => exact absurd e hb
        | false => rfl
      rw [hbf]
      refine iteT ?_
      refine ⟨Nat.zero_le _, fun r hr => ?_⟩
      rw [eT] at k
      exact k _ r [] (s03.trans (Same.put_new hr)) (s03.free hr) upd_same rfl fun kk t hk => by simp at hk
theorem tris_good {wd hd : Nat} {cs : List Sd21.Corner} {d : Sd21.Spot} (hc : ∀ c ∈ cs, Mx.FrontC c) : ∀ e ∈ faceTris wd hd cs d, Mx.GoodS e.1 ∧ Mx.GoodS e.2.1 ∧ Mx.GoodS e.2.2 := by
  intro e he
  unfold faceTris at he
  by_cases h : ∀ c ∈ cs, ¬ farOut (spot0 wd hd c)
  · rw [if_pos h] at he
    unfold trisOf at he
    obtain ⟨k, hk, rfl⟩ := List.mem_map.mp he
    have lt := List.mem_range.mp hk
    rw [List.length_map] at lt
    have good : ∀ n, n < cs.length → Mx.GoodS ((cs.map (spot0 wd hd)).getD n d) := fun n hn => by
      rw [List.getD_eq_getElem?_getD, List.getElem?_map, List.getElem?_eq_getElem hn]
      exact Mx.spot_good (hc _ (List.getElem_mem hn)) ((spot_eq wd hd _).2 (h _ (List.getElem_mem hn)))
    exact ⟨good 0 (by omega), good (k + 1) (by omega), good (k + 2) (by omega)⟩
  · rw [if_neg h] at he
    cases he
def noSpot : Sd21.Spot := ⟨0, 0, 0, 0, ⟨0, 0, 0, 0, 0, 0, 0, 0, 0, 0⟩⟩
end
end Dw


end
section
set_option Elab.async false
set_option linter.all false
set_option maxRecDepth 100000
set_option maxHeartbeats 4000000
namespace Dw
open PySem PySem.Spec PyProof.Rows L2 L3
local macro_rules | `(tactic| walk_at "side") => `(tactic| first
  | assumption
  | omega
  | exact Or.inl ⟨by omega, by omega⟩
  | exact Or.inr ⟨by omega, by omega⟩
  | exact ⟨by omega, by omega⟩
  | exact ⟨by omega, by omega, by omega⟩
  | decide)
local macro_rules | `(tactic| walk_at "rd1") => `(tactic| first
  | refine ⟨_, rfl, ?_⟩
  | refine ⟨_, _, rfl, rfl, ?_⟩
  | refine ⟨_, rfl, rfl, ?_⟩
  | refine L3.fld_ok (by assumption) (by assumption) (by decide) rfl ?_
  | refine ⟨_, _, _, _, rfl, rfl, (by assumption), (by rfl), ?_⟩
  | refine ⟨_, _, _, _, rfl, rfl, (by assumption), at_ints (by walk_at "side") (by walk_at "side"), ?_⟩
  | refine ⟨_, _, rfl, ?_⟩
  | refine And.intro (by walk_at "side") ?_)
local macro_rules | `(tactic| walk_at "rd") => `(tactic| repeat (walk_at "rd1"))
/-- x is among every st-th item from lo on -/
theorem mem_stepped {α : Type} {xs : List α} {lo c : Nat} (hc : 0 < c) {y : α} : y ∈ stepped xs lo (c : Int) ↔ ∃ k : Nat, xs[lo + c * k]? = some y := by
  unfold stepped sliceRange
  dsimp only
  rw [if_pos (show (c : Int) > 0 by omega)]
  constructor
  · intro h
    obtain ⟨i, hi, hy⟩ := List.mem_filterMap.mp h
    obtain ⟨k, hk, rfl⟩ := List.mem_map.mp hi
    by_cases hlo : lo ≤ xs.length
    · have e : (min (lo : Int) (xs.length : Int) + (c : Int) * (k : Int)).toNat = lo + c * k := by
        rw [Int.min_eq_left (by omega), ← Int.natCast_mul]
        omega
      rw [e] at hy
      exact ⟨k, hy⟩
    · rw [if_neg (by omega)] at hk
      simp at hk
  · rintro ⟨k, hk⟩
    have lt := (List.getElem?_eq_some_iff.mp hk).1
    have e : (min (lo : Int) (xs.length : Int) + (c : Int) * (k : Int)).toNat = lo + c * k := by
      rw [Int.min_eq_left (by omega), ← Int.natCast_mul]
      omega
    refine List.mem_filterMap.mpr ⟨lo + c * k, List.mem_map.mpr ⟨k, ?_, e⟩, hk⟩
    rw [List.mem_range, Int.min_eq_left (by omega), if_pos (by omega)]
    have : (k : Int) + 1 ≤ ((xs.length : Int) - lo + c - 1) / c := by
      refine (Int.le_ediv_iff_mul_le (by omega)).mpr ?_
      have e2 : ((k : Int) + 1) * c = ((c * k : Nat) : Int) + c := by
        rw [Int.natCast_mul]
        grind
      rw [e2]
      omega
    omega
section
variable {P : Program} {w : World} {K : PySem.W.Frag} {mg : Str → Option Value} {base : Heap}
theorem sc_is_picture_size : FnScope ["w", "h"] ["w", "h"] (defScope s_is_picture_size) := ⟨rfl, rfl, rfl, by decide +kernel, rfl, by decide +kernel, by decide +kernel⟩
def spSize : Sp := fun vs H Q _ => ∃ a b : Int, vs = [.int a, .int b] ∧ ∀ t : Bool, (t = true ↔ (1 ≤ a ∧ a ≤ 1024 ∧ 1 ≤ b ∧ b ≤ 1024)) → Q (.bl t) H
theorem ok_size {f : Addr} {fd : FuncData} (F : Fun K "is_picture_size" "is_picture_size" s_is_picture_size f fd) (m_LONGEST_SIDE : Num mg "LONGEST_SIDE" 1024) : FnOk P w K mg base CX0 1 f fd ["w", "h"] spSize := by
  refine F.ok sc_is_picture_size (fun vs H Q E h => ?_) (fun cdv A outer s H vs Q E hr h => ?_)
  · obtain ⟨_, _, rfl, _⟩ := h
    rfl
  · obtain ⟨a, b, rfl, k⟩ := h
    refine ⟨_, (pss_one (ps_ret (pe_and (pe_chain op_le op_le pe_int (pv 0) (L3.pnum m_LONGEST_SIDE)) (pe_one (pe_chain op_le op_le pe_int (pv 1) (L3.pnum m_LONGEST_SIDE)))))), ?_⟩
    walk_at "rd"
    refine iteB (fun h1 => ?_) (fun h1 => ?_)
    · walk_at "rd"
      refine iteB (fun h2 => ?_) (fun h2 => ?_)
      · walk_at "rd"
        refine iteB (fun h3 => ?_) (fun h3 => ?_)
        · walk_at "rd"
          exact k _ (by simp only [decide_eq_true_eq, decide_eq_false_iff_not, Bool.false_eq_true, false_iff] at *; omega)
        · exact k _ (by simp only [decide_eq_true_eq, decide_eq_false_iff_not, Bool.false_eq_true, false_iff] at *; omega)
      · exact k _ (by simp only [decide_eq_true_eq, decide_eq_false_iff_not, Bool.false_eq_true, false_iff] at *; omega)
    · refine ⟨_, rfl, iteF ?_⟩
      exact k _ (by simp only [decide_eq_true_eq, decide_eq_false_iff_not, Bool.false_eq_true, false_iff] at *; omega)
theorem sc_are_counts : FnScope ["n", "faces"] ["n", "faces"] (defScope s_are_counts) := ⟨rfl, rfl, rfl, by decide +kernel, rfl, by decide +kernel, by decide +kernel⟩
def spCounts : Sp := fun vs H Q _ => ∃ a b : Int, vs = [.int a, .int b] ∧ ∀ t : Bool, (t = true ↔ (0 ≤ a ∧ a ≤ 4096 ∧ 0 ≤ b ∧ b ≤ 8192)) → Q (.bl t) H
theorem ok_counts {f : Addr} {fd : FuncData} (F : Fun K "are_counts" "are_counts" s_are_counts f fd) (m_MOST_CORNERS : Num mg "MOST_CORNERS" 4096) (m_MOST_FACES : Num mg "MOST_FACES" 8192) : FnOk P w K mg base CX0 1 f fd ["n", "faces"] spCounts := by
  refine F.ok sc_are_counts (fun vs H Q E h => ?_) (fun cdv A outer s H vs Q E hr h => ?_)
  · obtain ⟨_, _, rfl, _⟩ := h
    rfl
  · obtain ⟨a, b, rfl, k⟩ := h
    refine ⟨_, (pss_one (ps_ret (pe_and (pe_chain op_le op_le pe_int (pv 0) (L3.pnum m_MOST_CORNERS)) (pe_one (pe_chain op_le op_le pe_int (pv 1) (L3.pnum m_MOST_FACES)))))), ?_⟩
    walk_at "rd"
    refine iteB (fun h1 => ?_) (fun h1 => ?_)
    · walk_at "rd"
      refine iteB (fun h2 => ?_) (fun h2 => ?_)
      · walk_at "rd"
        refine iteB (fun h3 => ?_) (fun h3 => ?_)
        · walk_at "rd"
          exact k _ (by simp only [decide_eq_true_eq, decide_eq_false_iff_not, Bool.false_eq_true, false_iff] at *; omega)
        · exact k _ (by simp only [decide_eq_true_eq, decide_eq_false_iff_not, Bool.false_eq_true, false_iff] at *; omega)
      · exact k _ (by simp only [decide_eq_true_eq, decide_eq_false_iff_not, Bool.false_eq_true, false_iff] at *; omega)
    · refine ⟨_, rfl, iteF ?_⟩
      exact k _ (by simp only [decide_eq_true_eq, decide_eq_false_iff_not, Bool.false_eq_true, false_iff] at *; omega)
theorem sc_is_mode : FnScope ["mode"] ["mode"] (defScope s_is_mode) := ⟨rfl, rfl, rfl, by decide +kernel, rfl, by decide +kernel, by decide +kernel⟩
def spMode : Sp := fun vs H Q _ => ∃ a : Int, vs = [.int a] ∧ ∀ t : Bool, (t = true ↔ (0 ≤ a ∧ a ≤ 63 ∧ ¬ a % 4 = 3)) → Q (.bl t) H
theorem ok_mode {f : Addr} {fd : FuncData} (F : Fun K "is_mode" "is_mode" s_is_mode f fd) (m_HIGHEST_MODE : Num mg "HIGHEST_MODE" 63) : FnOk P w K mg base CX0 1 f fd ["mode"] spMode := by
  refine F.ok sc_is_mode (fun vs H Q E h => ?_) (fun cdv A outer s H vs Q E hr h => ?_)
  · obtain ⟨_, rfl, _⟩ := h
    rfl
  · obtain ⟨a, rfl, k⟩ := h
    refine ⟨_, (pss_one (ps_ret (pe_and (pe_chain op_le op_le pe_int (pv 0) (L3.pnum m_HIGHEST_MODE)) (pe_one (pe_cmpR L3.op_neI (pe_op op_mod (pv 0) pe_int) pe_int (nomark _)))))), ?_⟩
    walk_at "rd"
    refine iteB (fun h1 => ?_) (fun h1 => ?_)
    · walk_at "rd"
      refine iteB (fun h2 => ?_) (fun h2 => ?_)
      · walk_at "rd"
        exact k _ (by simp only [Bool.not_eq_true', decide_eq_true_eq, decide_eq_false_iff_not] at *; omega)
      · exact k _ (by simp only [decide_eq_true_eq, decide_eq_false_iff_not, Bool.false_eq_true, false_iff] at *; omega)
    · refine ⟨_, rfl, iteF ?_⟩
      exact k _ (by simp only [decide_eq_true_eq, decide_eq_false_iff_not, Bool.false_eq_true, false_iff] at *; omega)
theorem sc_are_plain_numbers : FnScope ["numbers"] ["numbers"] (defScope s_are_plain_numbers) := ⟨rfl, rfl, rfl, by decide +kernel, rfl, by decide +kernel, by decide +kernel⟩
def spPlain (K : PySem.W.Frag) : Sp := fun vs H Q _ => ∃ (a : Addr) (ns : List Int), vs = [.ref a] ∧ LI K H a ns ∧ ∀ t : Bool, (t = true ↔ ∀ z ∈ ns, -16777216 < z ∧ z < 16777216) → Q (.bl t) H
theorem ok_plain {f : Addr} {fd : FuncData} (F : Fun K "are_plain_numbers" "are_plain_numbers" s_are_plain_numbers f fd) (m_BEYOND : Num mg "BEYOND" 16777216) (m_min : mg "min" = none) (m_max : mg "max" = none) : FnOk P w K mg base CX0 1 f fd ["numbers"] (spPlain K) := by
  refine F.ok sc_are_plain_numbers (fun vs H Q E h => ?_) (fun cdv A outer s H vs Q E hr h => ?_)
  · obtain ⟨_, _, rfl, _⟩ := h
    rfl
  · obtain ⟨a, ns, rfl, ha, k⟩ := h
    refine ⟨_, (pss_one (ps_ret (pe_and (pe_cmpR op_lt (pe_un un_neg (L3.pnum m_BEYOND)) (L3.pe_minD rfl m_min (pv 0) pe_int) (nomark _)) (pe_one (pe_cmpR op_lt (L3.pe_maxD rfl m_max (pv 0) pe_int) (L3.pnum m_BEYOND) (nomark _)))))), ?_⟩
    walk_at "rd"
    refine ⟨a, ns, 0, rfl, rfl, ha, fun lo hlo => ?_⟩
    walk_at "rd"
    refine iteB (fun h1 => ?_) (fun h1 => ?_)
    · have h1 := of_decide_eq_true h1
      walk_at "rd"
      refine ⟨a, ns, 0, rfl, rfl, ha, fun hi hhi => ?_⟩
      walk_at "rd"
      refine k _ ?_
      rw [decide_eq_true_eq]
      constructor
      · intro h2 z hz
        rcases hlo with ⟨rfl, _⟩ | ⟨_, hlo⟩
        · cases hz
        · rcases hhi with ⟨rfl, _⟩ | ⟨_, hhi⟩
          · cases hz
          · have := hlo z hz
            have := hhi z hz
            omega
      · intro h2
        rcases hhi with ⟨_, rfl⟩ | ⟨hm, _⟩
        · omega
        · exact (h2 hi hm).2
    · have h1 := of_decide_eq_false h1
      refine k _ ?_
      simp only [Bool.false_eq_true, false_iff]
      intro h2
      rcases hlo with ⟨_, rfl⟩ | ⟨hm, _⟩
      · omega
      · exact h1 (h2 lo hm).1
theorem sc_are_colors : FnScope ["numbers"] ["numbers"] (defScope s_are_colors) := ⟨rfl, rfl, rfl, by decide +kernel, rfl, by decide +kernel, by decide +kernel⟩
def spColors (K : PySem.W.Frag) : Sp := fun vs H Q _ => ∃ (a : Addr) (ns : List Int), vs = [.ref a] ∧ LI K H a ns ∧ ∀ t : Bool, (t = true ↔ ∀ z ∈ ns, 0 ≤ z ∧ z ≤ 65535) → Q (.bl t) H
theorem ok_colors {f : Addr} {fd : FuncData} (F : Fun K "are_colors" "are_colors" s_are_colors f fd) (m_HIGHEST_COLOR : Num mg "HIGHEST_COLOR" 65535) (m_min : mg "min" = none) (m_max : mg "max" = none) : FnOk P w K mg base CX0 1 f fd ["numbers"] (spColors K) := by
  refine F.ok sc_are_colors (fun vs H Q E h => ?_) (fun cdv A outer s H vs Q E hr h => ?_)
  · obtain ⟨_, _, rfl, _⟩ := h
    rfl
  · obtain ⟨a, ns, rfl, ha, k⟩ := h
    refine ⟨_, (pss_one (ps_ret (pe_and (pe_cmpR op_le pe_int (L3.pe_minD rfl m_min (pv 0) pe_int) (nomark _)) (pe_one (pe_cmpR op_le (L3.pe_maxD rfl m_max (pv 0) pe_int) (L3.pnum m_HIGHEST_COLOR) (nomark _)))))), ?_⟩
    walk_at "rd"
    refine ⟨a, ns, 0, rfl, rfl, ha, fun lo hlo => ?_⟩
    walk_at "rd"
    refine iteB (fun h1 => ?_) (fun h1 => ?_)
    · have h1 := of_decide_eq_true h1
      walk_at "rd"
      refine ⟨a, ns, 0, rfl, rfl, ha, fun hi hhi => ?_⟩
      walk_at "rd"
      refine k _ ?_
      rw [decide_eq_true_eq]
      constructor
      · intro h2 z hz
        rcases hlo with ⟨rfl, _⟩ | ⟨_, hlo⟩
        · cases hz
        · rcases hhi with ⟨rfl, _⟩ | ⟨_, hhi⟩
          · cases hz
          · have := hlo z hz
            have := hhi z hz
            omega
      · intro h2
        rcases hhi with ⟨_, rfl⟩ | ⟨hm, _⟩
        · omega
        · exact (h2 hi hm).2
    · have h1 := of_decide_eq_false h1
      refine k _ ?_
      simp only [Bool.false_eq_true, false_iff]
      intro h2
      rcases hlo with ⟨_, rfl⟩ | ⟨hm, _⟩
      · omega
      · exact h1 (h2 lo hm).1
theorem in_places (n : Nat) : inV (.int (0 + (n : Int))) [.int 4, .int 5, .int 6, .int 7] = decide (4 ≤ n ∧ n < 8) := by
  rw [Int.zero_add]
  show (((4 : Int) == (n : Int)) || (((5 : Int) == (n : Int)) || (((6 : Int) == (n : Int)) || (((7 : Int) == (n : Int)) || false)))) = _
  rw [Bool.eq_iff_iff]
  simp only [Bool.or_eq_true, beq_iff_eq, Bool.false_eq_true, or_false, decide_eq_true_eq]
  omega
theorem sc_are_corners : FnScope ["corners", "place", "numbers", "allowed"] ["corners"] (defScope s_are_corners) := ⟨rfl, rfl, rfl, by decide +kernel, rfl, by decide +kernel, by decide +kernel⟩
/-- the numbers at one place of all corners are as told -/
def PlaceOk (cs : List Int) (pl : Nat) : Prop := ∀ k : Nat, ∀ z, cs[pl + 10 * k]? = some z → if 4 ≤ pl ∧ pl < 8 then 0 ≤ z ∧ z ≤ 65535 else -16777216 < z ∧ z < 16777216
def spCorners (K : PySem.W.Frag) : Sp := fun vs H Q _ => ∃ (a : Addr) (cs : List Int), vs = [.ref a] ∧ LI K H a cs ∧ ∀ (t : Bool) (H' : Hp), Same H H' → (t = true ↔ ∀ pl, pl < 10 → PlaceOk cs pl) → Q (.bl t) H'
theorem ok_corners {f : Addr} {fd : FuncData} {a_COLOR_PLACES : Addr} (F : Fun K "are_corners" "are_corners" s_are_corners f fd) (m_CORNER_NUMBERS : Num mg "CORNER_NUMBERS" 10) (m_COLOR_PLACES : mg "COLOR_PLACES" = some (.ref a_COLOR_PLACES)) (t_COLOR_PLACES : ∀ H : Hp, SqT K H a_COLOR_PLACES [.int 4, .int 5, .int 6, .int 7]) (m_range : mg "range" = none)
    (c_are_colors : Can P w K mg base 1 "are_colors" ["numbers"] (spColors K)) (c_are_plain_numbers : Can P w K mg base 1 "are_plain_numbers" ["numbers"] (spPlain K)) : FnOk P w K mg base CX0 2 f fd ["corners"] (spCorners K) := by
  refine F.ok sc_are_corners (fun vs H Q E h => ?_) (fun cdv A outer s H vs Q E hr h => ?_)
  · obtain ⟨_, _, rfl, _⟩ := h
    rfl
  · obtain ⟨a, cs, rfl, ha, k⟩ := h
    refine ⟨_, (L3.pss_cut (ps_for PassesOwn.never rfl (pi_range1 rfl m_range (L3.pac (L3.pnum m_CORNER_NUMBERS) pa_nil)) (pg_name (i := 1) sc_are_corners.nd rfl (Or.inl rfl))
        (pss_cons (ps_set (i := 2) sc_are_corners.nd rfl (Or.inl rfl) (L3.pe_step (pv 0) (pv 1) (L3.pnum m_CORNER_NUMBERS)))
        (L3.pss_cut (ps_if (pt_cmpR op_in_seq (pv 1) (pe_glob (v := .ref a_COLOR_PLACES) rfl m_COLOR_PLACES rfl) rfl)
          (pss_one (ps_set (i := 3) sc_are_corners.nd rfl (Or.inl rfl) (L3.pcan c_are_colors (hr.mono (by decide)) (L3.pac (pv 2) pa_nil))))
          (pss_one (ps_set (i := 3) sc_are_corners.nd rfl (Or.inl rfl) (L3.pcan c_are_plain_numbers (hr.mono (by decide)) (L3.pac (pv 2) pa_nil)))))
        (pss_one (ps_if (pt_not (pt_val (pv 3)))
          (pss_one (ps_ret pe_bl))
          pss_nil)))))
      (pss_one (ps_ret pe_bl))), ?_⟩
    refine ⟨fun σ' H' => Same H H' ∧ ∀ pl, pl < 10 → PlaceOk cs pl, ?_, ?_⟩
    · walk_at "rd"
      refine for_range (n := 10) (fun n σ' H' => Same H H' ∧ (∀ pl, pl < n → PlaceOk cs pl) ∧ ∃ o1 o2 o3 : Option V, σ' = [some (.ref a), o1, o2, o3]) ⟨Same.refl _, fun pl h => by omega, none, none, none, rfl⟩ ?_ ?_
      · rintro n σ H1 hn ⟨s1, hp, o1, o2, o3, rfl⟩
        have ha1 := s1.seq ha
        walk_at "rd"
        refine ⟨a, _, n, 10, rfl, by rw [Int.zero_add], rfl, by decide, ha1, fun pl hpl => ?_⟩
        rw [show stepped (cs.map V.int) n 10 = (stepped cs n 10).map V.int from stepped_map V.int cs n 10]
        have s2 : Same H1 (upd H1 pl (.lst ((stepped cs n 10).map V.int))) := Same.put_new hpl
        have l2 : LI K (upd H1 pl (.lst ((stepped cs n 10).map V.int))) pl (stepped cs n 10) := SqL.of upd_same
        generalize upd H1 pl (.lst ((stepped cs n 10).map V.int)) = H2 at s2 l2
        have s02 := s1.trans s2
        have mem : ∀ z, z ∈ stepped cs n 10 ↔ ∃ k : Nat, cs[n + 10 * k]? = some z := fun z => mem_stepped (c := 10) (by decide)
        refine ⟨fun σ' H' => Same H H' ∧ ∃ t : Bool, σ' = [some (.ref a), some (.int (0 + (n : Int))), some (.ref pl), some (.bl t)] ∧ (t = true ↔ PlaceOk cs n), ?_, ?_⟩
        · walk_at "rd"
          refine ⟨a_COLOR_PLACES, _, rfl, .inr (t_COLOR_PLACES _), rfl, rfl, ?_⟩
          have ein : inV (.int (0 + (n : Int))) [.int 4, .int 5, .int 6, .int 7] = decide (4 ≤ n ∧ n < 8) := in_places n
          rw [show (if false = true then !inV (.int (0 + (n : Int))) [.int 4, .int 5, .int 6, .int 7] else inV (.int (0 + (n : Int))) [.int 4, .int 5, .int 6, .int 7]) = decide (4 ≤ n ∧ n < 8) from ein]
          walk_at "rd"
          refine iteD (fun hc => ?_) (fun hc => ?_)
          · walk_at "rd"
            refine ⟨pl, _, rfl, l2, fun t ht => ⟨s02, t, rfl, ?_⟩⟩
            rw [ht]
            unfold PlaceOk
            simp only [hc, and_self, if_true]
            constructor
            · intro h k z hz
              exact h z ((mem z).mpr ⟨k, hz⟩)
            · intro h z hz
              obtain ⟨k, hk⟩ := (mem z).mp hz
              exact h k z hk
          · walk_at "rd"
            refine ⟨pl, _, rfl, l2, fun t ht => ⟨s02, t, rfl, ?_⟩⟩
            rw [ht]
            unfold PlaceOk
            simp only [hc, if_false]
            constructor
            · intro h k z hz
              exact h z ((mem z).mpr ⟨k, hz⟩)
            · intro h z hz
              obtain ⟨k, hk⟩ := (mem z).mp hz
              exact h k z hk
        · rintro σ H3 ⟨s3, t, rfl, ht⟩
          walk_at "rd"
          cases t with
          | true =>
            refine iteF ⟨s3, fun pl' hpl' => ?_, _, _, _, rfl⟩
            by_cases e : pl' = n
            · rw [e]; exact ht.mp rfl
            · exact hp pl' (by omega)
          | false =>
            refine iteT (k false H3 s3 ?_)
            simp only [Bool.false_eq_true, false_iff]
            intro hh
            exact absurd (ht.mpr (hh n hn)) (by decide)
      · rintro σ H1 ⟨s1, hp, _⟩
        exact ⟨s1, hp⟩
    · rintro σ H' ⟨s', hp⟩
      walk_at "rd"
      exact k true H' s' (by simp only [true_iff]; exact hp)
def S24 (z : Int) : Prop := -16777216 < z ∧ z < 16777216
def C16 (z : Int) : Prop := 0 ≤ z ∧ z ≤ 65535
theorem small_S (z : Int) : Sd21.small 24 z = true ↔ S24 z := by
  rw [Mx.small_iff]
  exact Iff.rfl
theorem good_iff (c : Sd21.Corner) : Sd21.goodCorner c = true ↔ (S24 c.x ∧ S24 c.y ∧ S24 c.z ∧ S24 c.w ∧ (C16 c.r ∧ C16 c.g ∧ C16 c.b ∧ C16 c.a) ∧ S24 c.u ∧ S24 c.v) := by
  unfold Sd21.goodCorner
  simp only [Bool.and_eq_true, List.all_cons, List.all_nil, decide_eq_true_eq, Bool.and_true, small_S]
  exact Iff.rfl
theorem corners_iff {cs : List Int} {n : Nat} (hl : cs.length = 10 * n) : (∀ pl, pl < 10 → PlaceOk cs pl) ↔ ∀ i, i < n → Sd21.goodCorner (Mx.cornerAt cs i) = true := by
  have get : ∀ i pl, i < n → pl < 10 → cs[pl + 10 * i]? = some (cs.getD (10 * i + pl) 0) := fun i pl hi hp => by
    rw [List.getD_eq_getElem?_getD, Nat.add_comm pl, List.getElem?_eq_getElem (by omega)]
    rfl
  constructor
  · intro h i hi
    rw [good_iff]
    have h0 := h 0 (by decide) i _ (get i 0 hi (by decide)); have h1 := h 1 (by decide) i _ (get i 1 hi (by decide)); have h2 := h 2 (by decide) i _ (get i 2 hi (by decide)); have h3 := h 3 (by decide) i _ (get i 3 hi (by decide))
    have h4 := h 4 (by decide) i _ (get i 4 hi (by decide)); have h5 := h 5 (by decide) i _ (get i 5 hi (by decide)); have h6 := h 6 (by decide) i _ (get i 6 hi (by decide)); have h7 := h 7 (by decide) i _ (get i 7 hi (by decide))
    have h8 := h 8 (by decide) i _ (get i 8 hi (by decide)); have h9 := h 9 (by decide) i _ (get i 9 hi (by decide))
    rw [if_neg (by decide)] at h0 h1 h2 h3 h8 h9
    rw [if_pos (by decide)] at h4 h5 h6 h7
    exact ⟨h0, h1, h2, h3, ⟨h4, h5, h6, h7⟩, h8, h9⟩
  · intro h pl hp k z hz
    have lt := (List.getElem?_eq_some_iff.mp hz).1
    have hk : k < n := by omega
    have hg := (good_iff _).mp (h k hk)
    obtain ⟨h0, h1, h2, h3, ⟨h4, h5, h6, h7⟩, h8, h9⟩ := hg
    have ez : z = cs.getD (10 * k + pl) 0 := Option.some.inj (hz.symm.trans (get k pl hk hp))
    subst ez
    match pl, hp with
    | 0, _ => rw [if_neg (by decide)]; exact h0
    | 1, _ => rw [if_neg (by decide)]; exact h1
    | 2, _ => rw [if_neg (by decide)]; exact h2
    | 3, _ => rw [if_neg (by decide)]; exact h3
    | 4, _ => rw [if_pos (by decide)]; exact h4
    | 5, _ => rw [if_pos (by decide)]; exact h5
    | 6, _ => rw [if_pos (by decide)]; exact h6
    | 7, _ => rw [if_pos (by decide)]; exact h7
    | 8, _ => rw [if_neg (by decide)]; exact h8
    | 9, _ => rw [if_neg (by decide)]; exact h9
theorem sc_is_solid : FnScope ["n", "m", "corners", "index"] ["n", "m", "corners", "index"] (defScope s_is_solid) := ⟨rfl, rfl, rfl, by decide +kernel, rfl, by decide +kernel, by decide +kernel⟩
def spSolid (K : PySem.W.Frag) : Sp := fun vs H Q _ => ∃ (n : Nat) (a b c : Addr) (m cs index : List Int), vs = [.int n, .ref a, .ref b, .ref c] ∧ LI K H a m ∧ LI K H b cs ∧ LI K H c index ∧ cs.length = 10 * n ∧ (∀ z ∈ index, 0 ≤ z) ∧
  ∀ (t : Bool) (H' : Hp), Same H H' → (t = true ↔ Mx.Right n m cs index) → Q (.bl t) H'
theorem ok_solid {f : Addr} {fd : FuncData} (F : Fun K "is_solid" "is_solid" s_is_solid f fd) (m_max : mg "max" = none) (c_are_plain_numbers : Can P w K mg base 1 "are_plain_numbers" ["numbers"] (spPlain K)) (c_are_corners : Can P w K mg base 2 "are_corners" ["corners"] (spCorners K)) :
    FnOk P w K mg base CX0 3 f fd ["n", "m", "corners", "index"] (spSolid K) := by
  refine F.ok sc_is_solid (fun vs H Q E h => ?_) (fun cdv A outer s H vs Q E hr h => ?_)
  · obtain ⟨_, _, _, _, _, _, _, rfl, _⟩ := h
    rfl
  · obtain ⟨n, a, b, c, m, cs, index, rfl, ha, hb, hc, hl, hi, k⟩ := h
    refine ⟨_, (pss_one (ps_ret (pe_and (L3.pcan c_are_plain_numbers (hr.mono (by decide)) (L3.pac (pv 1) pa_nil)) (pe_and (L3.pcan c_are_corners (hr.mono (by decide)) (L3.pac (pv 2) pa_nil)) (pe_one (pe_cmpR op_lt (L3.pe_maxD rfl m_max (pv 3) (pe_un un_neg pe_int)) (pv 0) (nomark _))))))), ?_⟩
    walk_at "rd"
    refine ⟨a, m, rfl, ha, fun t1 h1 => ?_⟩
    have mat : t1 = true ↔ ∀ z ∈ m, Sd21.small 24 z = true := h1.trans ⟨fun h z hz => (small_S z).mpr (h z hz), fun h z hz => (small_S z).mp (h z hz)⟩
    walk_at "rd"
    refine iteB (fun e1 => ?_) (fun e1 => ?_)
    · walk_at "rd"
      refine ⟨b, cs, rfl, hb, fun t2 H2 s2 h2 => ?_⟩
      have cor := h2.trans (corners_iff hl)
      have hc2 := s2.seq hc
      walk_at "rd"
      refine iteB (fun e2 => ?_) (fun e2 => ?_)
      · walk_at "rd"
        refine ⟨c, index, -1, rfl, rfl, hc2, fun z hz => ?_⟩
        walk_at "rd"
        refine k _ _ s2 ?_
        rw [decide_eq_true_eq]
        constructor
        · intro hlt
          refine ⟨mat.mp e1, cor.mp e2, fun x hx => ?_⟩
          rcases hz with ⟨rfl, _⟩ | ⟨_, hz⟩
          · cases hx
          · have := hz x hx
            have := hi x hx
            omega
        · intro R
          rcases hz with ⟨_, rfl⟩ | ⟨hm, _⟩
          · omega
          · have := R.ind z hm
            omega
      · refine k _ _ s2 ?_
        simp only [Bool.false_eq_true, false_iff]
        intro R
        exact absurd (cor.mpr R.cor) (by rw [e2]; decide)
    · refine k _ _ (Same.refl _) ?_
      simp only [Bool.false_eq_true, false_iff]
      intro R
      exact absurd (mat.mpr R.mat) (by rw [e1]; decide)
theorem sc_faces_refusal : FnScope ["w", "h", "n", "faces", "m", "corners", "index"] ["w", "h", "n", "faces", "m", "corners", "index"] (defScope s_faces_refusal) := ⟨rfl, rfl, rfl, by decide +kernel, rfl, by decide +kernel, by decide +kernel⟩
def spFRefusal (K : PySem.W.Frag) : Sp := fun vs H Q _ => ∃ (wd hd n fs : Int) (am ac ai : Addr) (m cs index : List Int), vs = [.int wd, .int hd, .int n, .int fs, .ref am, .ref ac, .ref ai] ∧
  LI K H am m ∧ LI K H ac cs ∧ LI K H ai index ∧ (0 ≤ n ∧ n ≤ 4096 → (cs.length : Int) = 10 * n) ∧ (∀ z ∈ index, 0 ≤ z) ∧
  ∀ (r : Int) (H' : Hp), Same H H' → (r = -1 ∧ Mx.BadSizes wd hd n fs ∨ ¬ Mx.BadSizes wd hd n fs ∧ (r = -2 ∧ ¬ Mx.Right n.toNat m cs index ∨ r = 0 ∧ Mx.Right n.toNat m cs index)) → Q (.int r) H'
theorem ok_frefusal {f : Addr} {fd : FuncData} (F : Fun K "faces_refusal" "faces_refusal" s_faces_refusal f fd) (c_is_picture_size : Can P w K mg base 1 "is_picture_size" ["w", "h"] spSize) (c_are_counts : Can P w K mg base 1 "are_counts" ["n", "faces"] spCounts)
    (c_is_solid : Can P w K mg base 3 "is_solid" ["n", "m", "corners", "index"] (spSolid K)) :
    FnOk P w K mg base CX0 4 f fd ["w", "h", "n", "faces", "m", "corners", "index"] (spFRefusal K) := by
  refine F.ok sc_faces_refusal (fun vs H Q E h => ?_) (fun cdv A outer s H vs Q E hr h => ?_)
  · obtain ⟨_, _, _, _, _, _, _, _, _, _, rfl, _⟩ := h
    rfl
  · obtain ⟨wd, hd, n, fs, am, ac, ai, m, cs, index, rfl, lm, lc, li, hcl, hind, k⟩ := h
    refine ⟨_, (L3.pss_cut (ps_if (pt_not (PW.pt (pw_and (pt_val (L3.pcan c_is_picture_size (hr.mono (by decide)) (L3.pac (pv 0) (L3.pac (pv 1) pa_nil)))) (pw_and1 (pt_val (L3.pcan c_are_counts (hr.mono (by decide)) (L3.pac (pv 2) (L3.pac (pv 3) pa_nil))))))))
        (pss_one (ps_ret (pe_un un_neg pe_int)))
        pss_nil)
      (pss_cons (ps_if (pt_not (pt_val (L3.pcan c_is_solid (hr.mono (by decide)) (L3.pac (pv 2) (L3.pac (pv 4) (L3.pac (pv 5) (L3.pac (pv 6) pa_nil)))))))
        (pss_one (ps_ret (pe_un un_neg pe_int)))
        pss_nil)
      (pss_one (ps_ret pe_int)))), ?_⟩
    let σ0 : L2.St := [some (.int wd), some (.int hd), some (.int n), some (.int fs), some (.ref am), some (.ref ac), some (.ref ai)]
    refine ⟨fun σ' H' => σ' = σ0 ∧ H' = H ∧ ¬ Mx.BadSizes wd hd n fs, ?_, ?_⟩
    · have bad : ∀ {p : Prop}, (p → Mx.BadSizes wd hd n fs) → p → Q (.int (-1)) H := fun hp h => k (-1) H (Same.refl _) (.inl ⟨rfl, hp h⟩)
      unfold Mx.BadSizes at bad ⊢
      walk_at "rd"
      intro t1 h1
      walk_at "rd"
      refine iteB (fun e1 => ?_) (fun e1 => ?_)
      · rw [e1] at h1
        have h1 := h1.mp rfl
        walk_at "rd"
        intro t2 h2
        walk_at "rd"
        cases t2 with
        | true =>
          have h2 := h2.mp rfl
          refine iteF ⟨rfl, rfl, ?_⟩
          omega
        | false =>
          refine iteT ?_
          walk_at "rd"
          refine bad (p := ¬ (0 ≤ n ∧ n ≤ 4096 ∧ 0 ≤ fs ∧ fs ≤ 8192)) (fun h => by omega) fun h => absurd (h2.mpr h) (by decide)
      · refine iteT ?_
        walk_at "rd"
        rw [e1] at h1
        refine bad (p := ¬ (1 ≤ wd ∧ wd ≤ 1024 ∧ 1 ≤ hd ∧ hd ≤ 1024)) (fun h => by omega) fun h => absurd (h1.mpr h) (by decide)
    · rintro σ H' ⟨rfl, rfl, good⟩
      have gs := good
      unfold Mx.BadSizes at gs
      have hn : 0 ≤ n ∧ n ≤ 4096 := by omega
      have hcl := hcl hn
      walk_at "rd"
      refine ⟨n.toNat, am, ac, ai, m, cs, index, by rw [Int.toNat_of_nonneg hn.1]; rfl, lm, lc, li, by omega, hind, fun t1 H2 s2 h1 => ?_⟩
      walk_at "rd"
      cases t1 with
      | true =>
        refine iteF ?_
        walk_at "rd"
        exact k 0 H2 s2 (.inr ⟨good, .inr ⟨rfl, h1.mp rfl⟩⟩)
      | false =>
        refine iteT ?_
        walk_at "rd"
        exact k (-2) H2 s2 (.inr ⟨good, .inl ⟨rfl, fun R => absurd (h1.mpr R) (by decide)⟩⟩)
theorem sc_draw_refusal : FnScope ["w", "h", "n", "faces", "mode", "depth", "m", "corners", "index", "window", "refusal"] ["w", "h", "n", "faces", "mode", "depth", "m", "corners", "index", "window"] (defScope s_draw_refusal) := ⟨rfl, rfl, rfl, by decide +kernel, rfl, by decide +kernel, by decide +kernel⟩
def spRefusal (K : PySem.W.Frag) : Sp := fun vs H Q _ => ∃ (wd hd n fs mode : Int) (ad am ac ai aw : Addr) (depth m cs index window : List Int), vs = [.int wd, .int hd, .int n, .int fs, .int mode, .ref ad, .ref am, .ref ac, .ref ai, .ref aw] ∧
  LI K H ad depth ∧ LI K H am m ∧ LI K H ac cs ∧ LI K H ai index ∧ LI K H aw window ∧ 0 ≤ mode ∧ (0 ≤ n ∧ n ≤ 4096 → (cs.length : Int) = 10 * n) ∧ (∀ z ∈ index, 0 ≤ z) ∧ ((1 ≤ wd ∧ wd ≤ 1024 ∧ 1 ≤ hd ∧ hd ≤ 1024) → 0 < depth.length) ∧
  ∀ (r : Int) (H' : Hp), Same H H' → (r = -1 ∧ (Mx.BadSizes wd hd n fs ∨ 63 < mode ∨ mode.toNat % 4 = 3) ∨ ¬ (Mx.BadSizes wd hd n fs ∨ 63 < mode ∨ mode.toNat % 4 = 3) ∧
    (r = -2 ∧ (¬ Mx.Right n.toNat m cs index ∨ (∃ z ∈ window, ¬ Sd21.small 24 z = true) ∨ ∃ z ∈ depth, 16777216 ≤ z) ∨ r = 0 ∧ Mx.Right n.toNat m cs index ∧ (∀ z ∈ window, Sd21.small 24 z = true) ∧ ∀ z ∈ depth, z < 16777216)) → Q (.int r) H'
theorem ok_refusal {f : Addr} {fd : FuncData} (F : Fun K "draw_refusal" "draw_refusal" s_draw_refusal f fd) (m_max : mg "max" = none) (m_BEYOND : Num mg "BEYOND" 16777216) (c_is_mode : Can P w K mg base 1 "is_mode" ["mode"] spMode)
    (c_faces_refusal : Can P w K mg base 4 "faces_refusal" ["w", "h", "n", "faces", "m", "corners", "index"] (spFRefusal K)) (c_are_plain_numbers : Can P w K mg base 1 "are_plain_numbers" ["numbers"] (spPlain K)) :
    FnOk P w K mg base CX0 5 f fd ["w", "h", "n", "faces", "mode", "depth", "m", "corners", "index", "window"] (spRefusal K) := by
  refine F.ok sc_draw_refusal (fun vs H Q E h => ?_) (fun cdv A outer s H vs Q E hr h => ?_)
  · obtain ⟨_, _, _, _, _, _, _, _, _, _, _, _, _, _, _, rfl, _⟩ := h
    rfl
  · obtain ⟨wd, hd, n, fs, mode, ad, am, ac, ai, aw, depth, m, cs, index, window, rfl, ld, lm, lc, li, lw, hmode, hcl, hind, hdep, k⟩ := h
    refine ⟨_, (pss_cons (ps_if (pt_not (pt_val (L3.pcan c_is_mode (hr.mono (by decide)) (L3.pac (pv 4) pa_nil))))
        (pss_one (ps_ret (pe_un un_neg pe_int)))
        pss_nil)
      (pss_cons (ps_set (i := 10) sc_draw_refusal.nd rfl (Or.inl rfl) (L3.pcan c_faces_refusal (hr.mono (by decide)) (L3.pac (pv 0) (L3.pac (pv 1) (L3.pac (pv 2) (L3.pac (pv 3) (L3.pac (pv 6) (L3.pac (pv 7) (L3.pac (pv 8) pa_nil)))))))))
      (pss_cons (ps_if (pt_cmpR op_lt (pv 10) pe_int (nomark _))
        (pss_one (ps_ret (pv 10)))
        pss_nil)
      (L3.pss_cut (ps_if (pt_not (PW.pt (pw_and (pt_val (L3.pcan c_are_plain_numbers (hr.mono (by decide)) (L3.pac (pv 9) pa_nil))) (pw_and1 (pt_cmpR op_lt (L3.pcallB (L3.call_maxL rfl) m_max rfl (L3.pac (pv 5) pa_nil)) (L3.pnum m_BEYOND) (nomark _))))))
        (pss_one (ps_ret (pe_un un_neg pe_int)))
        pss_nil)
      (pss_one (ps_ret pe_int)))))), ?_⟩
    walk_at "rd"
    intro t1 h1
    walk_at "rd"
    cases t1 with
    | false =>
      refine iteT ?_
      walk_at "rd"
      have h1 : ¬ (0 ≤ mode ∧ mode ≤ 63 ∧ ¬ mode % 4 = 3) := fun h => absurd (h1.mpr h) (by decide)
      exact k (-1) H (Same.refl _) (.inl ⟨rfl, .inr (by omega)⟩)
    | true =>
      have h1 := h1.mp rfl
      refine iteF ?_
      walk_at "rd"
      refine ⟨wd, hd, n, fs, am, ac, ai, m, cs, index, rfl, lm, lc, li, hcl, hind, fun r H1 s1 hr1 => ?_⟩
      walk_at "rd"
      rcases hr1 with ⟨rfl, hbad⟩ | ⟨good, hr1⟩
      · refine iteT ?_
        walk_at "rd"
        exact k (-1) H1 s1 (.inl ⟨rfl, .inl hbad⟩)
      have ng : ¬ (Mx.BadSizes wd hd n fs ∨ 63 < mode ∨ mode.toNat % 4 = 3) := fun h => h.elim good fun h => by omega
      have two : (¬ Mx.Right n.toNat m cs index ∨ (∃ z ∈ window, ¬ Sd21.small 24 z = true) ∨ ∃ z ∈ depth, 16777216 ≤ z) → Q (.int (-2)) H1 := fun h => k (-2) H1 s1 (.inr ⟨ng, .inl ⟨rfl, h⟩⟩)
      rcases hr1 with ⟨rfl, hbad⟩ | ⟨rfl, hR⟩
      · refine iteT ?_
        walk_at "rd"
        exact two (.inl hbad)
      · refine iteF ?_
        have gs := good
        unfold Mx.BadSizes at gs
        have hsz : 1 ≤ wd ∧ wd ≤ 1024 ∧ 1 ≤ hd ∧ hd ≤ 1024 := by omega
        have hdep := hdep hsz
        have lw2 := s1.seq lw
        have ld2 := s1.seq ld
        walk_at "rd"
        refine ⟨fun σ' H2 => Same H H2 ∧ (∀ z ∈ window, Sd21.small 24 z = true) ∧ ∀ z ∈ depth, z < 16777216, ?_, ?_⟩
        · walk_at "rd"
          refine ⟨aw, window, rfl, lw2, fun t2 h2 => ?_⟩
          walk_at "rd"
          refine iteB (fun e2 => ?_) (fun e2 => ?_)
          · have hw : ∀ z ∈ window, Sd21.small 24 z = true := fun z hz => (small_S z).mpr (h2.mp e2 z hz)
            walk_at "rd"
            refine ⟨ad, depth, rfl, ld2, hdep, fun z hz hmax => ?_⟩
            walk_at "rd"
            by_cases hlt : z < 16777216
            · rw [decide_eq_true hlt]
              exact iteF ⟨s1, hw, fun y hy => by have := hmax y hy; omega⟩
            · rw [decide_eq_false hlt]
              refine iteT ?_
              walk_at "rd"
              exact two (.inr (.inr ⟨z, hz, by omega⟩))
          · refine iteT ?_
            walk_at "rd"
            refine two (.inr (.inl ?_))
            refine Classical.byContradiction fun hno => ?_
            have all : ∀ z ∈ window, -16777216 < z ∧ z < 16777216 := fun z hz => by
              refine Classical.byContradiction fun hz2 => hno ⟨z, hz, fun h => hz2 ((small_S z).mp h)⟩
            exact absurd (h2.mpr all) (by rw [e2]; decide)
        · rintro σ H2 ⟨s2, hw, hd2⟩
          walk_at "rd"
          exact k 0 H2 s2 (.inr ⟨ng, .inr ⟨rfl, hR, hw, hd2⟩⟩)
end
theorem list_dw {K : PySem.W.Frag} {H : Hp} {v : V} {ns : List Int} (h : Dw K H v (.list (ns.map W.WData.int))) : ∃ a, v = .ref a ∧ LI K H a ns := by
  cases h with
  | lst hs ha =>
    have e := L2.ints_dw ns _ ha
    subst e
    exact ⟨_, rfl, hs⟩
theorem int_dw {K : PySem.W.Frag} {H : Hp} {v : V} {n : Int} (h : Dw K H v (.int n)) : v = .int n := by
  cases h
  rfl
theorem cons_dw {K : PySem.W.Frag} {H : Hp} {vs : List V} {d : W.WData} {ds : List W.WData} (h : DwAll K H vs (d :: ds)) : ∃ v r, vs = v :: r ∧ Dw K H v d ∧ DwAll K H r ds := by
  cases h with
  | cons h1 h2 => exact ⟨_, _, rfl, h1, h2⟩
end Dw


end
section
set_option Elab.async false
set_option linter.all false
set_option maxRecDepth 100000
set_option maxHeartbeats 4000000
namespace Dw
open PySem PySem.Spec PyProof.Rows L2 L3
local macro_rules | `(tactic| walk_at "side") => `(tactic| first
  | assumption
  | omega
  | exact Or.inl ⟨by omega, by omega⟩
  | exact Or.inr ⟨by omega, by omega⟩
  | exact ⟨by omega, by omega⟩
  | exact ⟨by omega, by omega, by omega⟩
  | decide)
local macro_rules | `(tactic| walk_at "rd1") => `(tactic| first
  | refine ⟨_, rfl, ?_⟩
  | refine ⟨_, _, rfl, rfl, ?_⟩
  | refine ⟨_, rfl, rfl, ?_⟩
  | refine L3.fld_ok (by assumption) (by assumption) (by decide) rfl ?_
  | refine ⟨_, _, _, _, rfl, rfl, (by assumption), (by rfl), ?_⟩
  | refine ⟨_, _, _, _, rfl, rfl, (by assumption), at_ints (by walk_at "side") (by walk_at "side"), ?_⟩
  | refine ⟨_, _, rfl, ?_⟩
  | refine And.intro (by walk_at "side") ?_)
local macro_rules | `(tactic| walk_at "rd") => `(tactic| repeat (walk_at "rd1"))
theorem bits {m : Nat} (h : m ≤ 63) : decide (Builtin.bitAnd (m : Int) 3 = 1) = decide ((Sd21.modeOf m).side = 1) ∧ decide (Builtin.bitAnd (m : Int) 3 = 2) = decide ((Sd21.modeOf m).side = 2) ∧ decide (0 < Builtin.bitAnd (m : Int) 4) = (Sd21.modeOf m).ask ∧
    decide (0 < Builtin.bitAnd (m : Int) 8) = (Sd21.modeOf m).keep ∧ decide (0 < Builtin.bitAnd (m : Int) 16) = (Sd21.modeOf m).pattern ∧ decide (0 < Builtin.bitAnd (m : Int) 32) = (Sd21.modeOf m).mix := by
  have z : ∀ n : _root_.Fin 64, decide (Builtin.bitAnd ((n.val : Nat) : Int) 3 = 1) = decide ((Sd21.modeOf n.val).side = 1) ∧ decide (Builtin.bitAnd ((n.val : Nat) : Int) 3 = 2) = decide ((Sd21.modeOf n.val).side = 2) ∧ decide (0 < Builtin.bitAnd ((n.val : Nat) : Int) 4) = (Sd21.modeOf n.val).ask ∧
    decide (0 < Builtin.bitAnd ((n.val : Nat) : Int) 8) = (Sd21.modeOf n.val).keep ∧ decide (0 < Builtin.bitAnd ((n.val : Nat) : Int) 16) = (Sd21.modeOf n.val).pattern ∧ decide (0 < Builtin.bitAnd ((n.val : Nat) : Int) 32) = (Sd21.modeOf n.val).mix := by decide +kernel
  exact z ⟨m, by omega⟩
section
variable {P : Program} {w : World} {K : PySem.W.Frag} {mg : Str → Option Value} {base : Heap}
theorem sc_Canvas_init : FnScope ["self", "w", "h", "mode", "pix", "depth", "pattern", "window"] ["self", "w", "h", "mode", "pix", "depth", "pattern", "window"] (defScope s_Canvas_init) := ⟨rfl, rfl, rfl, by decide +kernel, rfl, by decide +kernel, by decide +kernel⟩
def spCanvas (K : PySem.W.Frag) (CC : Addr) : Sp := fun vs H Q _ => ∃ (p dx : Addr) (wd hd mode : Nat) (ax ay at_ aw : Addr) (pix dep : List Int) (x0 y0 x1 y1 : Int) (H0 : Hp), vs = [.ref p, .int wd, .int hd, .int mode, .ref ax, .ref ay, .ref at_, .ref aw] ∧ H p = some (.ins CC dx []) ∧ Same H0 H ∧ H0 p = none ∧
  LI K H0 ax pix ∧ LI K H0 ay dep ∧ LI K H0 aw [x0, y0, x1, y1] ∧ mode ≤ 63 ∧ ∀ H' ap ad, InsAt CC H' p (cvF wd ap ad at_ (max x0 0) (max y0 0) (min x1 wd) (min y1 hd) (Sd21.modeOf mode)) → H0 ap = none → H0 ad = none → ap ≠ ad →
    H' ap = some (.lst (pix.map V.int)) → H' ad = some (.lst (dep.map V.int)) → Same H0 H' → Q .non H'
theorem ok_Canvas {f CC : Addr} {fd : FuncData} (F : Fun K "__init__" "Canvas.__init__" s_Canvas_init f fd) (T_Canvas : Fields K CC nCanvas) (m_list : mg "list" = none) (m_max : mg "max" = none) (m_min : mg "min" = none) :
    FnOk P w K mg base CX0 1 f fd ["self", "w", "h", "mode", "pix", "depth", "pattern", "window"] (spCanvas K CC) := by
  refine F.ok sc_Canvas_init (fun vs H Q E h => ?_) (fun cdv A outer s H vs Q E hr h => ?_)
  · obtain ⟨_, _, _, _, _, _, _, _, _, _, _, _, _, _, _, _, rfl, _⟩ := h
    rfl
  · obtain ⟨p, dx, wd, hd, mode, ax, ay, at_, aw, pix, dep, x0, y0, x1, y1, H0, rfl, hp, s0, n0, lx, ly, lw, hmode, k⟩ := h
    refine ⟨_, (pss_cons (ps_fld (pv 0) (pv 1) rfl)
      (pss_cons (ps_fld (pv 0) (L3.pcallTy call_list_of m_list rfl (L3.pac (pv 4) pa_nil)) rfl)
      (pss_cons (ps_fld (pv 0) (L3.pcallTy call_list_of m_list rfl (L3.pac (pv 5) pa_nil)) rfl)
      (pss_cons (ps_fld (pv 0) (pv 6) rfl)
      (pss_cons (ps_fld (pv 0) (L3.pcallB (L3.call_maxM rfl) m_max rfl (L3.pac (L3.ixL (K := K) (pv 7) pe_int) (L3.pac pe_int pa_nil))) rfl)
      (pss_cons (ps_fld (pv 0) (L3.pcallB (L3.call_maxM rfl) m_max rfl (L3.pac (L3.ixL (K := K) (pv 7) pe_int) (L3.pac pe_int pa_nil))) rfl)
      (pss_cons (ps_fld (pv 0) (L3.pcallB (L3.call_minM rfl) m_min rfl (L3.pac (L3.ixL (K := K) (pv 7) pe_int) (L3.pac (pv 1) pa_nil))) rfl)
      (pss_cons (ps_fld (pv 0) (L3.pcallB (L3.call_minM rfl) m_min rfl (L3.pac (L3.ixL (K := K) (pv 7) pe_int) (L3.pac (pv 2) pa_nil))) rfl)
      (pss_cons (ps_fld (pv 0) (pe_cmpR L3.op_eqI (pe_op op_and (pv 3) pe_int) pe_int (nomark _)) rfl)
      (pss_cons (ps_fld (pv 0) (pe_cmpR L3.op_eqI (pe_op op_and (pv 3) pe_int) pe_int (nomark _)) rfl)
      (pss_cons (ps_fld (pv 0) (pe_cmpR op_gt (pe_op op_and (pv 3) pe_int) pe_int (nomark _)) rfl)
      (pss_cons (ps_fld (pv 0) (pe_cmpR op_gt (pe_op op_and (pv 3) pe_int) pe_int (nomark _)) rfl)
      (pss_cons (ps_fld (pv 0) (pe_cmpR op_gt (pe_op op_and (pv 3) pe_int) pe_int (nomark _)) rfl)
      (pss_one (ps_fld (pv 0) (pe_cmpR op_gt (pe_op op_and (pv 3) pe_int) pe_int (nomark _)) rfl))))))))))))))), ?_⟩
    walk_at "rd"
    refine ⟨p, CC, dx, _, rfl, hp, T_Canvas.cl, T_Canvas.no _ (by decide), (by show 0 < 1000; decide), ?_⟩
    have t0 : Same H0 (upd H p (.ins CC dx [("w", .int wd)])) := Same.putOff s0 n0
    have q0 : upd H p (.ins CC dx [("w", .int wd)]) p = some (.ins CC dx [("w", .int wd)]) := upd_same
    generalize hH0 : upd H p (.ins CC dx [("w", .int wd)]) = G0 at t0 q0
    have hG0 : upd H p (HO.ins CC dx (putF "w" (.int wd) [])) = G0 := hH0
    rw [hG0]
    clear hH0 hG0
    walk_at "rd"
    refine ⟨ax, _, rfl, .inl (t0.seq lx), fun ap hap => ?_⟩
    have fap : H0 ap = none := t0.free hap
    have npap : ap ≠ p := fun e => by rw [e, q0] at hap; cases hap
    have slap : Same G0 (upd G0 ap (.lst (pix.map V.int))) := Same.put_new hap
    have uap : upd G0 ap (.lst (pix.map V.int)) ap = some (.lst (pix.map V.int)) := upd_same
    have sap := Same.trans t0 slap
    have pap := slap _ _ q0
    generalize upd G0 ap (.lst (pix.map V.int)) = Gap at slap uap sap pap
    walk_at "rd"
    refine ⟨p, CC, dx, _, rfl, pap, T_Canvas.cl, T_Canvas.no _ (by decide), (by show 1 < 1000; decide), ?_⟩
    have t1 : Same H0 (upd Gap p (.ins CC dx [("w", .int wd), ("pix", .ref ap)])) := Same.putOff sap n0
    have q1 : upd Gap p (.ins CC dx [("w", .int wd), ("pix", .ref ap)]) p = some (.ins CC dx [("w", .int wd), ("pix", .ref ap)]) := upd_same
    have uap : upd Gap p (.ins CC dx [("w", .int wd), ("pix", .ref ap)]) ap = some (.lst (pix.map V.int)) := by rw [upd_ne npap]; exact uap
    generalize hH1 : upd Gap p (.ins CC dx [("w", .int wd), ("pix", .ref ap)]) = G1 at t1 q1 uap
    have hG1 : upd Gap p (HO.ins CC dx (putF "pix" (.ref ap) [("w", .int wd)])) = G1 := hH1
    rw [hG1]
    clear hH1 hG1
    walk_at "rd"
    refine ⟨ay, _, rfl, .inl (t1.seq ly), fun ad had => ?_⟩
    have nn : ap ≠ ad := fun e => by rw [← e, uap] at had; cases had
    have fad : H0 ad = none := t1.free had
    have npad : ad ≠ p := fun e => by rw [e, q1] at had; cases had
    have slad : Same G1 (upd G1 ad (.lst (dep.map V.int))) := Same.put_new had
    have uad : upd G1 ad (.lst (dep.map V.int)) ad = some (.lst (dep.map V.int)) := upd_same
    have sad := Same.trans t1 slad
    have pad := slad _ _ q1
    replace uap := slad _ _ uap
    generalize upd G1 ad (.lst (dep.map V.int)) = Gad at slad uad sad pad uap
    walk_at "rd"
    refine ⟨p, CC, dx, _, rfl, pad, T_Canvas.cl, T_Canvas.no _ (by decide), (by show 2 < 1000; decide), ?_⟩
    have t2 : Same H0 (upd Gad p (.ins CC dx [("w", .int wd), ("pix", .ref ap), ("depth", .ref ad)])) := Same.putOff sad n0
    have q2 : upd Gad p (.ins CC dx [("w", .int wd), ("pix", .ref ap), ("depth", .ref ad)]) p = some (.ins CC dx [("w", .int wd), ("pix", .ref ap), ("depth", .ref ad)]) := upd_same
    have uap : upd Gad p (.ins CC dx [("w", .int wd), ("pix", .ref ap), ("depth", .ref ad)]) ap = some (.lst (pix.map V.int)) := by rw [upd_ne npap]; exact uap
    have uad : upd Gad p (.ins CC dx [("w", .int wd), ("pix", .ref ap), ("depth", .ref ad)]) ad = some (.lst (dep.map V.int)) := by rw [upd_ne npad]; exact uad
    generalize hH2 : upd Gad p (.ins CC dx [("w", .int wd), ("pix", .ref ap), ("depth", .ref ad)]) = G2 at t2 q2 uap uad
    have hG2 : upd Gad p (HO.ins CC dx (putF "depth" (.ref ad) [("w", .int wd), ("pix", .ref ap)])) = G2 := hH2
    rw [hG2]
    clear hH2 hG2
    walk_at "rd"
    refine ⟨p, CC, dx, _, rfl, q2, T_Canvas.cl, T_Canvas.no _ (by decide), (by show 3 < 1000; decide), ?_⟩
    have t3 : Same H0 (upd G2 p (.ins CC dx [("w", .int wd), ("pix", .ref ap), ("depth", .ref ad), ("pattern", .ref at_)])) := Same.putOff t2 n0
    have q3 : upd G2 p (.ins CC dx [("w", .int wd), ("pix", .ref ap), ("depth", .ref ad), ("pattern", .ref at_)]) p = some (.ins CC dx [("w", .int wd), ("pix", .ref ap), ("depth", .ref ad), ("pattern", .ref at_)]) := upd_same
    have uap : upd G2 p (.ins CC dx [("w", .int wd), ("pix", .ref ap), ("depth", .ref ad), ("pattern", .ref at_)]) ap = some (.lst (pix.map V.int)) := by rw [upd_ne npap]; exact uap
    have uad : upd G2 p (.ins CC dx [("w", .int wd), ("pix", .ref ap), ("depth", .ref ad), ("pattern", .ref at_)]) ad = some (.lst (dep.map V.int)) := by rw [upd_ne npad]; exact uad
    generalize hH3 : upd G2 p (.ins CC dx [("w", .int wd), ("pix", .ref ap), ("depth", .ref ad), ("pattern", .ref at_)]) = G3 at t3 q3 uap uad
    have hG3 : upd G2 p (HO.ins CC dx (putF "pattern" (.ref at_) [("w", .int wd), ("pix", .ref ap), ("depth", .ref ad)])) = G3 := hH3
    rw [hG3]
    clear hH3 hG3
    have w4 := t3.seq lw
    walk_at "rd"
    refine ⟨p, CC, dx, _, rfl, q3, T_Canvas.cl, T_Canvas.no _ (by decide), (by show 4 < 1000; decide), ?_⟩
    have t4 : Same H0 (upd G3 p (.ins CC dx [("w", .int wd), ("pix", .ref ap), ("depth", .ref ad), ("pattern", .ref at_), ("left", .int (max x0 0))])) := Same.putOff t3 n0
    have q4 : upd G3 p (.ins CC dx [("w", .int wd), ("pix", .ref ap), ("depth", .ref ad), ("pattern", .ref at_), ("left", .int (max x0 0))]) p = some (.ins CC dx [("w", .int wd), ("pix", .ref ap), ("depth", .ref ad), ("pattern", .ref at_), ("left", .int (max x0 0))]) := upd_same
    have uap : upd G3 p (.ins CC dx [("w", .int wd), ("pix", .ref ap), ("depth", .ref ad), ("pattern", .ref at_), ("left", .int (max x0 0))]) ap = some (.lst (pix.map V.int)) := by rw [upd_ne npap]; exact uap
    have uad : upd G3 p (.ins CC dx [("w", .int wd), ("pix", .ref ap), ("depth", .ref ad), ("pattern", .ref at_), ("left", .int (max x0 0))]) ad = some (.lst (dep.map V.int)) := by rw [upd_ne npad]; exact uad
    generalize hH4 : upd G3 p (.ins CC dx [("w", .int wd), ("pix", .ref ap), ("depth", .ref ad), ("pattern", .ref at_), ("left", .int (max x0 0))]) = G4 at t4 q4 uap uad
    have hG4 : upd G3 p (HO.ins CC dx (putF "left" (.int (max x0 0)) [("w", .int wd), ("pix", .ref ap), ("depth", .ref ad), ("pattern", .ref at_)])) = G4 := hH4
    rw [hG4]
    clear hH4 hG4
    have w5 := t4.seq lw
    walk_at "rd"
    refine ⟨p, CC, dx, _, rfl, q4, T_Canvas.cl, T_Canvas.no _ (by decide), (by show 5 < 1000; decide), ?_⟩
    have t5 : Same H0 (upd G4 p (.ins CC dx [("w", .int wd), ("pix", .ref ap), ("depth", .ref ad), ("pattern", .ref at_), ("left", .int (max x0 0)), ("top", .int (max y0 0))])) := Same.putOff t4 n0
    have q5 : upd G4 p (.ins CC dx [("w", .int wd), ("pix", .ref ap), ("depth", .ref ad), ("pattern", .ref at_), ("left", .int (max x0 0)), ("top", .int (max y0 0))]) p = some (.ins CC dx [("w", .int wd), ("pix", .ref ap), ("depth", .ref ad), ("pattern", .ref at_), ("left", .int (max x0 0)), ("top", .int (max y0 0))]) := upd_same
    have uap : upd G4 p (.ins CC dx [("w", .int wd), ("pix", .ref ap), ("depth", .ref ad), ("pattern", .ref at_), ("left", .int (max x0 0)), ("top", .int (max y0 0))]) ap = some (.lst (pix.map V.int)) := by rw [upd_ne npap]; exact uap
    have uad : upd G4 p (.ins CC dx [("w", .int wd), ("pix", .ref ap), ("depth", .ref ad), ("pattern", .ref at_), ("left", .int (max x0 0)), ("top", .int (max y0 0))]) ad = some (.lst (dep.map V.int)) := by rw [upd_ne npad]; exact uad
    generalize hH5 : upd G4 p (.ins CC dx [("w", .int wd), ("pix", .ref ap), ("depth", .ref ad), ("pattern", .ref at_), ("left", .int (max x0 0)), ("top", .int (max y0 0))]) = G5 at t5 q5 uap uad
    have hG5 : upd G4 p (HO.ins CC dx (putF "top" (.int (max y0 0)) [("w", .int wd), ("pix", .ref ap), ("depth", .ref ad), ("pattern", .ref at_), ("left", .int (max x0 0))])) = G5 := hH5
    rw [hG5]
    clear hH5 hG5
    have w6 := t5.seq lw
    walk_at "rd"
    refine ⟨p, CC, dx, _, rfl, q5, T_Canvas.cl, T_Canvas.no _ (by decide), (by show 6 < 1000; decide), ?_⟩
    have t6 : Same H0 (upd G5 p (.ins CC dx [("w", .int wd), ("pix", .ref ap), ("depth", .ref ad), ("pattern", .ref at_), ("left", .int (max x0 0)), ("top", .int (max y0 0)), ("right", .int (min x1 wd))])) := Same.putOff t5 n0
    have q6 : upd G5 p (.ins CC dx [("w", .int wd), ("pix", .ref ap), ("depth", .ref ad), ("pattern", .ref at_), ("left", .int (max x0 0)), ("top", .int (max y0 0)), ("right", .int (min x1 wd))]) p = some (.ins CC dx [("w", .int wd), ("pix", .ref ap), ("depth", .ref ad), ("pattern", .ref at_), ("left", .int (max x0 0)), ("top", .int (max y0 0)), ("right", .int (min x1 wd))]) := upd_same
    have uap : upd G5 p (.ins CC dx [("w", .int wd), ("pix", .ref ap), ("depth", .ref ad), ("pattern", .ref at_), ("left", .int (max x0 0)), ("top", .int (max y0 0)), ("right", .int (min x1 wd))]) ap = some (.lst (pix.map V.int)) := by rw [upd_ne npap]; exact uap
    have uad : upd G5 p (.ins CC dx [("w", .int wd), ("pix", .ref ap), ("depth", .ref ad), ("pattern", .ref at_), ("left", .int (max x0 0)), ("top", .int (max y0 0)), ("right", .int (min x1 wd))]) ad = some (.lst (dep.map V.int)) := by rw [upd_ne npad]; exact uad
    generalize hH6 : upd G5 p (.ins CC dx [("w", .int wd), ("pix", .ref ap), ("depth", .ref ad), ("pattern", .ref at_), ("left", .int (max x0 0)), ("top", .int (max y0 0)), ("right", .int (min x1 wd))]) = G6 at t6 q6 uap uad
    have hG6 : upd G5 p (HO.ins CC dx (putF "right" (.int (min x1 wd)) [("w", .int wd), ("pix", .ref ap), ("depth", .ref ad), ("pattern", .ref at_), ("left", .int (max x0 0)), ("top", .int (max y0 0))])) = G6 := hH6
    rw [hG6]
    clear hH6 hG6
    have w7 := t6.seq lw
    walk_at "rd"
    refine ⟨p, CC, dx, _, rfl, q6, T_Canvas.cl, T_Canvas.no _ (by decide), (by show 7 < 1000; decide), ?_⟩
    have t7 : Same H0 (upd G6 p (.ins CC dx [("w", .int wd), ("pix", .ref ap), ("depth", .ref ad), ("pattern", .ref at_), ("left", .int (max x0 0)), ("top", .int (max y0 0)), ("right", .int (min x1 wd)), ("bottom", .int (min y1 hd))])) := Same.putOff t6 n0
    have q7 : upd G6 p (.ins CC dx [("w", .int wd), ("pix", .ref ap), ("depth", .ref ad), ("pattern", .ref at_), ("left", .int (max x0 0)), ("top", .int (max y0 0)), ("right", .int (min x1 wd)), ("bottom", .int (min y1 hd))]) p = some (.ins CC dx [("w", .int wd), ("pix", .ref ap), ("depth", .ref ad), ("pattern", .ref at_), ("left", .int (max x0 0)), ("top", .int (max y0 0)), ("right", .int (min x1 wd)), ("bottom", .int (min y1 hd))]) := upd_same
    have uap : upd G6 p (.ins CC dx [("w", .int wd), ("pix", .ref ap), ("depth", .ref ad), ("pattern", .ref at_), ("left", .int (max x0 0)), ("top", .int (max y0 0)), ("right", .int (min x1 wd)), ("bottom", .int (min y1 hd))]) ap = some (.lst (pix.map V.int)) := by rw [upd_ne npap]; exact uap
    have uad : upd G6 p (.ins CC dx [("w", .int wd), ("pix", .ref ap), ("depth", .ref ad), ("pattern", .ref at_), ("left", .int (max x0 0)), ("top", .int (max y0 0)), ("right", .int (min x1 wd)), ("bottom", .int (min y1 hd))]) ad = some (.lst (dep.map V.int)) := by rw [upd_ne npad]; exact uad
    generalize hH7 : upd G6 p (.ins CC dx [("w", .int wd), ("pix", .ref ap), ("depth", .ref ad), ("pattern", .ref at_), ("left", .int (max x0 0)), ("top", .int (max y0 0)), ("right", .int (min x1 wd)), ("bottom", .int (min y1 hd))]) = G7 at t7 q7 uap uad
    have hG7 : upd G6 p (HO.ins CC dx (putF "bottom" (.int (min y1 hd)) [("w", .int wd), ("pix", .ref ap), ("depth", .ref ad), ("pattern", .ref at_), ("left", .int (max x0 0)), ("top", .int (max y0 0)), ("right", .int (min x1 wd))])) = G7 := hH7
    rw [hG7]
    clear hH7 hG7
    walk_at "rd"
    refine ⟨p, CC, dx, _, rfl, q7, T_Canvas.cl, T_Canvas.no _ (by decide), (by show 8 < 1000; decide), ?_⟩
    have t8 : Same H0 (upd G7 p (.ins CC dx [("w", .int wd), ("pix", .ref ap), ("depth", .ref ad), ("pattern", .ref at_), ("left", .int (max x0 0)), ("top", .int (max y0 0)), ("right", .int (min x1 wd)), ("bottom", .int (min y1 hd)), ("skips_against", .bl (decide (Builtin.bitAnd (mode : Int) 3 = 1)))])) := Same.putOff t7 n0
    have q8 : upd G7 p (.ins CC dx [("w", .int wd), ("pix", .ref ap), ("depth", .ref ad), ("pattern", .ref at_), ("left", .int (max x0 0)), ("top", .int (max y0 0)), ("right", .int (min x1 wd)), ("bottom", .int (min y1 hd)), ("skips_against", .bl (decide (Builtin.bitAnd (mode : Int) 3 = 1)))]) p = some (.ins CC dx [("w", .int wd), ("pix", .ref ap), ("depth", .ref ad), ("pattern", .ref at_), ("left", .int (max x0 0)), ("top", .int (max y0 0)), ("right", .int (min x1 wd)), ("bottom", .int (min y1 hd)), ("skips_against", .bl (decide (Builtin.bitAnd (mode : Int) 3 = 1)))]) := upd_same
    have uap : upd G7 p (.ins CC dx [("w", .int wd), ("pix", .ref ap), ("depth", .ref ad), ("pattern", .ref at_), ("left", .int (max x0 0)), ("top", .int (max y0 0)), ("right", .int (min x1 wd)), ("bottom", .int (min y1 hd)), ("skips_against", .bl (decide (Builtin.bitAnd (mode : Int) 3 = 1)))]) ap = some (.lst (pix.map V.int)) := by rw [upd_ne npap]; exact uap
    have uad : upd G7 p (.ins CC dx [("w", .int wd), ("pix", .ref ap), ("depth", .ref ad), ("pattern", .ref at_), ("left", .int (max x0 0)), ("top", .int (max y0 0)), ("right", .int (min x1 wd)), ("bottom", .int (min y1 hd)), ("skips_against", .bl (decide (Builtin.bitAnd (mode : Int) 3 = 1)))]) ad = some (.lst (dep.map V.int)) := by rw [upd_ne npad]; exact uad
    generalize hH8 : upd G7 p (.ins CC dx [("w", .int wd), ("pix", .ref ap), ("depth", .ref ad), ("pattern", .ref at_), ("left", .int (max x0 0)), ("top", .int (max y0 0)), ("right", .int (min x1 wd)), ("bottom", .int (min y1 hd)), ("skips_against", .bl (decide (Builtin.bitAnd (mode : Int) 3 = 1)))]) = G8 at t8 q8 uap uad
    have hG8 : upd G7 p (HO.ins CC dx (putF "skips_against" (.bl (decide (Builtin.bitAnd (mode : Int) 3 = 1))) [("w", .int wd), ("pix", .ref ap), ("depth", .ref ad), ("pattern", .ref at_), ("left", .int (max x0 0)), ("top", .int (max y0 0)), ("right", .int (min x1 wd)), ("bottom", .int (min y1 hd))])) = G8 := hH8
    rw [hG8]
    clear hH8 hG8
    walk_at "rd"
    refine ⟨p, CC, dx, _, rfl, q8, T_Canvas.cl, T_Canvas.no _ (by decide), (by show 9 < 1000; decide), ?_⟩
    have t9 : Same H0 (upd G8 p (.ins CC dx [("w", .int wd), ("pix", .ref ap), ("depth", .ref ad), ("pattern", .ref at_), ("left", .int (max x0 0)), ("top", .int (max y0 0)), ("right", .int (min x1 wd)), ("bottom", .int (min y1 hd)), ("skips_against", .bl (decide (Builtin.bitAnd (mode : Int) 3 = 1))), ("skips_by", .bl (decide (Builtin.bitAnd (mode : Int) 3 = 2)))])) := Same.putOff t8 n0
    have q9 : upd G8 p (.ins CC dx [("w", .int wd), ("pix", .ref ap), ("depth", .ref ad), ("pattern", .ref at_), ("left", .int (max x0 0)), ("top", .int (max y0 0)), ("right", .int (min x1 wd)), ("bottom", .int (min y1 hd)), ("skips_against", .bl (decide (Builtin.bitAnd (mode : Int) 3 = 1))), ("skips_by", .bl (decide (Builtin.bitAnd (mode : Int) 3 = 2)))]) p = some (.ins CC dx [("w", .int wd), ("pix", .ref ap), ("depth", .ref ad), ("pattern", .ref at_), ("left", .int (max x0 0)), ("top", .int (max y0 0)), ("right", .int (min x1 wd)), ("bottom", .int (min y1 hd)), ("skips_against", .bl (decide (Builtin.bitAnd (mode : Int) 3 = 1))), ("skips_by", .bl (decide (Builtin.bitAnd (mode : Int) 3 = 2)))]) := upd_same
    have uap : upd G8 p (.ins CC dx [("w", .int wd), ("pix", .ref ap), ("depth", .ref ad), ("pattern", .ref at_), ("left", .int (max x0 0)), ("top", .int (max y0 0)), ("right", .int (min x1 wd)), ("bottom", .int (min y1 hd)), ("skips_against", .bl (decide (Builtin.bitAnd (mode : Int) 3 = 1))), ("skips_by", .bl (decide (Builtin.bitAnd (mode : Int) 3 = 2)))]) ap = some (.lst (pix.map V.int)) := by rw [upd_ne npap]; exact uap
    have uad : upd G8 p (.ins CC dx [("w", .int wd), ("pix", .ref ap), ("depth", .ref ad), ("pattern", .ref at_), ("left", .int (max x0 0)), ("top", .int (max y0 0)), ("right", .int (min x1 wd)), ("bottom", .int (min y1 hd)), ("skips_against", .bl (decide (Builtin.bitAnd (mode : Int) 3 = 1))), ("skips_by", .bl (decide (Builtin.bitAnd (mode : Int) 3 = 2)))]) ad = some (.lst (dep.map V.int)) := by rw [upd_ne npad]; exact uad
    generalize hH9 : upd G8 p (.ins CC dx [("w", .int wd), ("pix", .ref ap), ("depth", .ref ad), ("pattern", .ref at_), ("left", .int (max x0 0)), ("top", .int (max y0 0)), ("right", .int (min x1 wd)), ("bottom", .int (min y1 hd)), ("skips_against", .bl (decide (Builtin.bitAnd (mode : Int) 3 = 1))), ("skips_by", .bl (decide (Builtin.bitAnd (mode : Int) 3 = 2)))]) = G9 at t9 q9 uap uad
    have hG9 : upd G8 p (HO.ins CC dx (putF "skips_by" (.bl (decide (Builtin.bitAnd (mode : Int) 3 = 2))) [("w", .int wd), ("pix", .ref ap), ("depth", .ref ad), ("pattern", .ref at_), ("left", .int (max x0 0)), ("top", .int (max y0 0)), ("right", .int (min x1 wd)), ("bottom", .int (min y1 hd)), ("skips_against", .bl (decide (Builtin.bitAnd (mode : Int) 3 = 1)))])) = G9 := hH9
    rw [hG9]
    clear hH9 hG9
    walk_at "rd"
    refine ⟨p, CC, dx, _, rfl, q9, T_Canvas.cl, T_Canvas.no _ (by decide), (by show 10 < 1000; decide), ?_⟩
    have t10 : Same H0 (upd G9 p (.ins CC dx [("w", .int wd), ("pix", .ref ap), ("depth", .ref ad), ("pattern", .ref at_), ("left", .int (max x0 0)), ("top", .int (max y0 0)), ("right", .int (min x1 wd)), ("bottom", .int (min y1 hd)), ("skips_against", .bl (decide (Builtin.bitAnd (mode : Int) 3 = 1))), ("skips_by", .bl (decide (Builtin.bitAnd (mode : Int) 3 = 2))), ("asks_depth", .bl (decide (0 < Builtin.bitAnd (mode : Int) 4)))])) := Same.putOff t9 n0
    have q10 : upd G9 p (.ins CC dx [("w", .int wd), ("pix", .ref ap), ("depth", .ref ad), ("pattern", .ref at_), ("left", .int (max x0 0)), ("top", .int (max y0 0)), ("right", .int (min x1 wd)), ("bottom", .int (min y1 hd)), ("skips_against", .bl (decide (Builtin.bitAnd (mode : Int) 3 = 1))), ("skips_by", .bl (decide (Builtin.bitAnd (mode : Int) 3 = 2))), ("asks_depth", .bl (decide (0 < Builtin.bitAnd (mode : Int) 4)))]) p = some (.ins CC dx [("w", .int wd), ("pix", .ref ap), ("depth", .ref ad), ("pattern", .ref at_), ("left", .int (max x0 0)), ("top", .int (max y0 0)), ("right", .int (min x1 wd)), ("bottom", .int (min y1 hd)), ("skips_against", .bl (decide (Builtin.bitAnd (mode : Int) 3 = 1))), ("skips_by", .bl (decide (Builtin.bitAnd (mode : Int) 3 = 2))), ("asks_depth", .bl (decide (0 < Builtin.bitAnd (mode : Int) 4)))]) := upd_same
    have uap : upd G9 p (.ins CC dx [("w", .int wd), ("pix", .ref ap), ("depth", .ref ad), ("pattern", .ref at_), ("left", .int (max x0 0)), ("top", .int (max y0 0)), ("right", .int (min x1 wd)), ("bottom", .int (min y1 hd)), ("skips_against", .bl (decide (Builtin.bitAnd (mode : Int) 3 = 1))), ("skips_by", .bl (decide (Builtin.bitAnd (mode : Int) 3 = 2))), ("asks_depth", .bl (decide (0 < Builtin.bitAnd (mode : Int) 4)))]) ap = some (.lst (pix.map V.int)) := by rw [upd_ne npap]; exact uap
    have uad : upd G9 p (.ins CC dx [("w", .int wd), ("pix", .ref ap), ("depth", .ref ad), ("pattern", .ref at_), ("left", .int (max x0 0)), ("top", .int (max y0 0)), ("right", .int (min x1 wd)), ("bottom", .int (min y1 hd)), ("skips_against", .bl (decide (Builtin.bitAnd (mode : Int) 3 = 1))), ("skips_by", .bl (decide (Builtin.bitAnd (mode : Int) 3 = 2))), ("asks_depth", .bl (decide (0 < Builtin.bitAnd (mode : Int) 4)))]) ad = some (.lst (dep.map V.int)) := by rw [upd_ne npad]; exact uad
    generalize hH10 : upd G9 p (.ins CC dx [("w", .int wd), ("pix", .ref ap), ("depth", .ref ad), ("pattern", .ref at_), ("left", .int (max x0 0)), ("top", .int (max y0 0)), ("right", .int (min x1 wd)), ("bottom", .int (min y1 hd)), ("skips_against", .bl (decide (Builtin.bitAnd (mode : Int) 3 = 1))), ("skips_by", .bl (decide (Builtin.bitAnd (mode : Int) 3 = 2))), ("asks_depth", .bl (decide (0 < Builtin.bitAnd (mode : Int) 4)))]) = G10 at t10 q10 uap uad
    have hG10 : upd G9 p (HO.ins CC dx (putF "asks_depth" (.bl (decide (0 < Builtin.bitAnd (mode : Int) 4))) [("w", .int wd), ("pix", .ref ap), ("depth", .ref ad), ("pattern", .ref at_), ("left", .int (max x0 0)), ("top", .int (max y0 0)), ("right", .int (min x1 wd)), ("bottom", .int (min y1 hd)), ("skips_against", .bl (decide (Builtin.bitAnd (mode : Int) 3 = 1))), ("skips_by", .bl (decide (Builtin.bitAnd (mode : Int) 3 = 2)))])) = G10 := hH10
    rw [hG10]
    clear hH10 hG10
    walk_at "rd"
    refine ⟨p, CC, dx, _, rfl, q10, T_Canvas.cl, T_Canvas.no _ (by decide), (by show 11 < 1000; decide), ?_⟩
    have t11 : Same H0 (upd G10 p (.ins CC dx [("w", .int wd), ("pix", .ref ap), ("depth", .ref ad), ("pattern", .ref at_), ("left", .int (max x0 0)), ("top", .int (max y0 0)), ("right", .int (min x1 wd)), ("bottom", .int (min y1 hd)), ("skips_against", .bl (decide (Builtin.bitAnd (mode : Int) 3 = 1))), ("skips_by", .bl (decide (Builtin.bitAnd (mode : Int) 3 = 2))), ("asks_depth", .bl (decide (0 < Builtin.bitAnd (mode : Int) 4))), ("keeps_depth", .bl (decide (0 < Builtin.bitAnd (mode : Int) 8)))])) := Same.putOff t10 n0
    have q11 : upd G10 p (.ins CC dx [("w", .int wd), ("pix", .ref ap), ("depth", .ref ad), ("pattern", .ref at_), ("left", .int (max x0 0)), ("top", .int (max y0 0)), ("right", .int (min x1 wd)), ("bottom", .int (min y1 hd)), ("skips_against", .bl (decide (Builtin.bitAnd (mode : Int) 3 = 1))), ("skips_by", .bl (decide (Builtin.bitAnd (mode : Int) 3 = 2))), ("asks_depth", .bl (decide (0 < Builtin.bitAnd (mode : Int) 4))), ("keeps_depth", .bl (decide (0 < Builtin.bitAnd (mode : Int) 8)))]) p = some (.ins CC dx [("w", .int wd), ("pix", .ref ap), ("depth", .ref ad), ("pattern", .ref at_), ("left", .int (max x0 0)), ("top", .int (max y0 0)), ("right", .int (min x1 wd)), ("bottom", .int (min y1 hd)), ("skips_against", .bl (decide (Builtin.bitAnd (mode : Int) 3 = 1))), ("skips_by", .bl (decide (Builtin.bitAnd (mode : Int) 3 = 2))), ("asks_depth", .bl (decide (0 < Builtin.bitAnd (mode : Int) 4))), ("keeps_depth", .bl (decide (0 < Builtin.bitAnd (mode : Int) 8)))]) := upd_same
    have uap : upd G10 p (.ins CC dx [("w", .int wd), ("pix", .ref ap), ("depth", .ref ad), ("pattern", .ref at_), ("left", .int (max x0 0)), ("top", .int (max y0 0)), ("right", .int (min x1 wd)), ("bottom", .int (min y1 hd)), ("skips_against", .bl (decide (Builtin.bitAnd (mode : Int) 3 = 1))), ("skips_by", .bl (decide (Builtin.bitAnd (mode : Int) 3 = 2))), ("asks_depth", .bl (decide (0 < Builtin.bitAnd (mode : Int) 4))), ("keeps_depth", .bl (decide (0 < Builtin.bitAnd (mode : Int) 8)))]) ap = some (.lst (pix.map V.int)) := by rw [upd_ne npap]; exact uap
    have uad : upd G10 p (.ins CC dx [("w", .int wd), ("pix", .ref ap), ("depth", .ref ad), ("pattern", .ref at_), ("left", .int (max x0 0)), ("top", .int (max y0 0)), ("right", .int (min x1 wd)), ("bottom", .int (min y1 hd)), ("skips_against", .bl (decide (Builtin.bitAnd (mode : Int) 3 = 1))), ("skips_by", .bl (decide (Builtin.bitAnd (mode : Int) 3 = 2))), ("asks_depth", .bl (decide (0 < Builtin.bitAnd (mode : Int) 4))), ("keeps_depth", .bl (decide (0 < Builtin.bitAnd (mode : Int) 8)))]) ad = some (.lst (dep.map V.int)) := by rw [upd_ne npad]; exact uad
    generalize hH11 : upd G10 p (.ins CC dx [("w", .int wd), ("pix", .ref ap), ("depth", .ref ad), ("pattern", .ref at_), ("left", .int (max x0 0)), ("top", .int (max y0 0)), ("right", .int (min x1 wd)), ("bottom", .int (min y1 hd)), ("skips_against", .bl (decide (Builtin.bitAnd (mode : Int) 3 = 1))), ("skips_by", .bl (decide (Builtin.bitAnd (mode : Int) 3 = 2))), ("asks_depth", .bl (decide (0 < Builtin.bitAnd (mode : Int) 4))), ("keeps_depth", .bl (decide (0 < Builtin.bitAnd (mode : Int) 8)))]) = G11 at t11 q11 uap uad
    have hG11 : upd G10 p (HO.ins CC dx (putF "keeps_depth" (.bl (decide (0 < Builtin.bitAnd (mode : Int) 8))) [("w", .int wd), ("pix", .ref ap), ("depth", .ref ad), ("pattern", .ref at_), ("left", .int (max x0 0)), ("top", .int (max y0 0)), ("right", .int (min x1 wd)), ("bottom", .int (min y1 hd)), ("skips_against", .bl (decide (Builtin.bitAnd (mode : Int) 3 = 1))), ("skips_by", .bl (decide (Builtin.bitAnd (mode : Int) 3 = 2))), ("asks_depth", .bl (decide (0 < Builtin.bitAnd (mode : Int) 4)))])) = G11 := hH11
    rw [hG11]
    clear hH11 hG11
    walk_at "rd"
    refine ⟨p, CC, dx, _, rfl, q11, T_Canvas.cl, T_Canvas.no _ (by decide), (by show 12 < 1000; decide), ?_⟩
    have t12 : Same H0 (upd G11 p (.ins CC dx [("w", .int wd), ("pix", .ref ap), ("depth", .ref ad), ("pattern", .ref at_), ("left", .int (max x0 0)), ("top", .int (max y0 0)), ("right", .int (min x1 wd)), ("bottom", .int (min y1 hd)), ("skips_against", .bl (decide (Builtin.bitAnd (mode : Int) 3 = 1))), ("skips_by", .bl (decide (Builtin.bitAnd (mode : Int) 3 = 2))), ("asks_depth", .bl (decide (0 < Builtin.bitAnd (mode : Int) 4))), ("keeps_depth", .bl (decide (0 < Builtin.bitAnd (mode : Int) 8))), ("has_pattern", .bl (decide (0 < Builtin.bitAnd (mode : Int) 16)))])) := Same.putOff t11 n0
    have q12 : upd G11 p (.ins CC dx [("w", .int wd), ("pix", .ref ap), ("depth", .ref ad), ("pattern", .ref at_), ("left", .int (max x0 0)), ("top", .int (max y0 0)), ("right", .int (min x1 wd)), ("bottom", .int (min y1 hd)), ("skips_against", .bl (decide (Builtin.bitAnd (mode : Int) 3 = 1))), ("skips_by", .bl (decide (Builtin.bitAnd (mode : Int) 3 = 2))), ("asks_depth", .bl (decide (0 < Builtin.bitAnd (mode : Int) 4))), ("keeps_depth", .bl (decide (0 < Builtin.bitAnd (mode : Int) 8))), ("has_pattern", .bl (decide (0 < Builtin.bitAnd (mode : Int) 16)))]) p = some (.ins CC dx [("w", .int wd), ("pix", .ref ap), ("depth", .ref ad), ("pattern", .ref at_), ("left", .int (max x0 0)), ("top", .int (max y0 0)), ("right", .int (min x1 wd)), ("bottom", .int (min y1 hd)), ("skips_against", .bl (decide (Builtin.bitAnd (mode : Int) 3 = 1))), ("skips_by", .bl (decide (Builtin.bitAnd (mode : Int) 3 = 2))), ("asks_depth", .bl (decide (0 < Builtin.bitAnd (mode : Int) 4))), ("keeps_depth", .bl (decide (0 < Builtin.bitAnd (mode : Int) 8))), ("has_pattern", .bl (decide (0 < Builtin.bitAnd (mode : Int) 16)))]) := upd_same
    have uap : upd G11 p (.ins CC dx [("w", .int wd), ("pix", .ref ap), ("depth", .ref ad), ("pattern", .ref at_), ("left", .int (max x0 0)), ("top", .int (max y0 0)), ("right", .int (min x1 wd)), ("bottom", .int (min y1 hd)), ("skips_against", .bl (decide (Builtin.bitAnd (mode : Int) 3 = 1))), ("skips_by", .bl (decide (Builtin.bitAnd (mode : Int) 3 = 2))), ("asks_depth", .bl (decide (0 < Builtin.bitAnd (mode : Int) 4))), ("keeps_depth", .bl (decide (0 < Builtin.bitAnd (mode : Int) 8))), ("has_pattern", .bl (decide (0 < Builtin.bitAnd (mode : Int) 16)))]) ap = some (.lst (pix.map V.int)) := by rw [upd_ne npap]; exact uap
    have uad : upd G11 p (.ins CC dx [("w", .int wd), ("pix", .ref ap), ("depth", .ref ad), ("pattern", .ref at_), ("left", .int (max x0 0)), ("top", .int (max y0 0)), ("right", .int (min x1 wd)), ("bottom", .int (min y1 hd)), ("skips_against", .bl (decide (Builtin.bitAnd (mode : Int) 3 = 1))), ("skips_by", .bl (decide (Builtin.bitAnd (mode : Int) 3 = 2))), ("asks_depth", .bl (decide (0 < Builtin.bitAnd (mode : Int) 4))), ("keeps_depth", .bl (decide (0 < Builtin.bitAnd (mode : Int) 8))), ("has_pattern", .bl (decide (0 < Builtin.bitAnd (mode : Int) 16)))]) ad = some (.lst (dep.map V.int)) := by rw [upd_ne npad]; exact uad
    generalize hH12 : upd G11 p (.ins CC dx [("w", .int wd), ("pix", .ref ap), ("depth", .ref ad), ("pattern", .ref at_), ("left", .int (max x0 0)), ("top", .int (max y0 0)), ("right", .int (min x1 wd)), ("bottom", .int (min y1 hd)), ("skips_against", .bl (decide (Builtin.bitAnd (mode : Int) 3 = 1))), ("skips_by", .bl (decide (Builtin.bitAnd (mode : Int) 3 = 2))), ("asks_depth", .bl (decide (0 < Builtin.bitAnd (mode : Int) 4))), ("keeps_depth", .bl (decide (0 < Builtin.bitAnd (mode : Int) 8))), ("has_pattern", .bl (decide (0 < Builtin.bitAnd (mode : Int) 16)))]) = G12 at t12 q12 uap uad
    have hG12 : upd G11 p (HO.ins CC dx (putF "has_pattern" (.bl (decide (0 < Builtin.bitAnd (mode : Int) 16))) [("w", .int wd), ("pix", .ref ap), ("depth", .ref ad), ("pattern", .ref at_), ("left", .int (max x0 0)), ("top", .int (max y0 0)), ("right", .int (min x1 wd)), ("bottom", .int (min y1 hd)), ("skips_against", .bl (decide (Builtin.bitAnd (mode : Int) 3 = 1))), ("skips_by", .bl (decide (Builtin.bitAnd (mode : Int) 3 = 2))), ("asks_depth", .bl (decide (0 < Builtin.bitAnd (mode : Int) 4))), ("keeps_depth", .bl (decide (0 < Builtin.bitAnd (mode : Int) 8)))])) = G12 := hH12
    rw [hG12]
    clear hH12 hG12
    walk_at "rd"
    refine ⟨p, CC, dx, _, rfl, q12, T_Canvas.cl, T_Canvas.no _ (by decide), (by show 13 < 1000; decide), ?_⟩
    have t13 : Same H0 (upd G12 p (.ins CC dx [("w", .int wd), ("pix", .ref ap), ("depth", .ref ad), ("pattern", .ref at_), ("left", .int (max x0 0)), ("top", .int (max y0 0)), ("right", .int (min x1 wd)), ("bottom", .int (min y1 hd)), ("skips_against", .bl (decide (Builtin.bitAnd (mode : Int) 3 = 1))), ("skips_by", .bl (decide (Builtin.bitAnd (mode : Int) 3 = 2))), ("asks_depth", .bl (decide (0 < Builtin.bitAnd (mode : Int) 4))), ("keeps_depth", .bl (decide (0 < Builtin.bitAnd (mode : Int) 8))), ("has_pattern", .bl (decide (0 < Builtin.bitAnd (mode : Int) 16))), ("mixes", .bl (decide (0 < Builtin.bitAnd (mode : Int) 32)))])) := Same.putOff t12 n0
    have q13 : upd G12 p (.ins CC dx [("w", .int wd), ("pix", .ref ap), ("depth", .ref ad), ("pattern", .ref at_), ("left", .int (max x0 0)), ("top", .int (max y0 0)), ("right", .int (min x1 wd)), ("bottom", .int (min y1 hd)), ("skips_against", .bl (decide (Builtin.bitAnd (mode : Int) 3 = 1))), ("skips_by", .bl (decide (Builtin.bitAnd (mode : Int) 3 = 2))), ("asks_depth", .bl (decide (0 < Builtin.bitAnd (mode : Int) 4))), ("keeps_depth", .bl (decide (0 < Builtin.bitAnd (mode : Int) 8))), ("has_pattern", .bl (decide (0 < Builtin.bitAnd (mode : Int) 16))), ("mixes", .bl (decide (0 < Builtin.bitAnd (mode : Int) 32)))]) p = some (.ins CC dx [("w", .int wd), ("pix", .ref ap), ("depth", .ref ad), ("pattern", .ref at_), ("left", .int (max x0 0)), ("top", .int (max y0 0)), ("right", .int (min x1 wd)), ("bottom", .int (min y1 hd)), ("skips_against", .bl (decide (Builtin.bitAnd (mode : Int) 3 = 1))), ("skips_by", .bl (decide (Builtin.bitAnd (mode : Int) 3 = 2))), ("asks_depth", .bl (decide (0 < Builtin.bitAnd (mode : Int) 4))), ("keeps_depth", .bl (decide (0 < Builtin.bitAnd (mode : Int) 8))), ("has_pattern", .bl (decide (0 < Builtin.bitAnd (mode : Int) 16))), ("mixes", .bl (decide (0 < Builtin.bitAnd (mode : Int) 32)))]) := upd_same
    have uap : upd G12 p (.ins CC dx [("w", .int wd), ("pix", .ref ap), ("depth", .ref ad), ("pattern", .ref at_), ("left", .int (max x0 0)), ("top", .int (max y0 0)), ("right", .int (min x1 wd)), ("bottom", .int (min y1 hd)), ("skips_against", .bl (decide (Builtin.bitAnd (mode : Int) 3 = 1))), ("skips_by", .bl (decide (Builtin.bitAnd (mode : Int) 3 = 2))), ("asks_depth", .bl (decide (0 < Builtin.bitAnd (mode : Int) 4))), ("keeps_depth", .bl (decide (0 < Builtin.bitAnd (mode : Int) 8))), ("has_pattern", .bl (decide (0 < Builtin.bitAnd (mode : Int) 16))), ("mixes", .bl (decide (0 < Builtin.bitAnd (mode : Int) 32)))]) ap = some (.lst (pix.map V.int)) := by rw [upd_ne npap]; exact uap
    have uad : upd G12 p (.ins CC dx [("w", .int wd), ("pix", .ref ap), ("depth", .ref ad), ("pattern", .ref at_), ("left", .int (max x0 0)), ("top", .int (max y0 0)), ("right", .int (min x1 wd)), ("bottom", .int (min y1 hd)), ("skips_against", .bl (decide (Builtin.bitAnd (mode : Int) 3 = 1))), ("skips_by", .bl (decide (Builtin.bitAnd (mode : Int) 3 = 2))), ("asks_depth", .bl (decide (0 < Builtin.bitAnd (mode : Int) 4))), ("keeps_depth", .bl (decide (0 < Builtin.bitAnd (mode : Int) 8))), ("has_pattern", .bl (decide (0 < Builtin.bitAnd (mode : Int) 16))), ("mixes", .bl (decide (0 < Builtin.bitAnd (mode : Int) 32)))]) ad = some (.lst (dep.map V.int)) := by rw [upd_ne npad]; exact uad
    generalize hH13 : upd G12 p (.ins CC dx [("w", .int wd), ("pix", .ref ap), ("depth", .ref ad), ("pattern", .ref at_), ("left", .int (max x0 0)), ("top", .int (max y0 0)), ("right", .int (min x1 wd)), ("bottom", .int (min y1 hd)), ("skips_against", .bl (decide (Builtin.bitAnd (mode : Int) 3 = 1))), ("skips_by", .bl (decide (Builtin.bitAnd (mode : Int) 3 = 2))), ("asks_depth", .bl (decide (0 < Builtin.bitAnd (mode : Int) 4))), ("keeps_depth", .bl (decide (0 < Builtin.bitAnd (mode : Int) 8))), ("has_pattern", .bl (decide (0 < Builtin.bitAnd (mode : Int) 16))), ("mixes", .bl (decide (0 < Builtin.bitAnd (mode : Int) 32)))]) = G13 at t13 q13 uap uad
    have hG13 : upd G12 p (HO.ins CC dx (putF "mixes" (.bl (decide (0 < Builtin.bitAnd (mode : Int) 32))) [("w", .int wd), ("pix", .ref ap), ("depth", .ref ad), ("pattern", .ref at_), ("left", .int (max x0 0)), ("top", .int (max y0 0)), ("right", .int (min x1 wd)), ("bottom", .int (min y1 hd)), ("skips_against", .bl (decide (Builtin.bitAnd (mode : Int) 3 = 1))), ("skips_by", .bl (decide (Builtin.bitAnd (mode : Int) 3 = 2))), ("asks_depth", .bl (decide (0 < Builtin.bitAnd (mode : Int) 4))), ("keeps_depth", .bl (decide (0 < Builtin.bitAnd (mode : Int) 8))), ("has_pattern", .bl (decide (0 < Builtin.bitAnd (mode : Int) 16)))])) = G13 := hH13
    rw [hG13]
    obtain ⟨b1, b2, b3, b4, b5, b6⟩ := bits hmode
    rw [b1, b2, b3, b4, b5, b6] at q13
    exact k G13 ap ad ⟨dx, q13⟩ fap fad nn uap uad t13
end
end Dw


end
section
set_option Elab.async false
set_option linter.all false
set_option maxRecDepth 100000
set_option maxHeartbeats 4000000
namespace Dw
open PySem PySem.Spec PyProof.Rows L2 L3
local macro_rules | `(tactic| walk_at "side") => `(tactic| first
  | assumption
  | omega
  | exact Or.inl ⟨by omega, by omega⟩
  | exact Or.inr ⟨by omega, by omega⟩
  | exact ⟨by omega, by omega⟩
  | exact ⟨by omega, by omega, by omega⟩
  | decide)
local macro_rules | `(tactic| walk_at "rd1") => `(tactic| first
  | refine ⟨_, rfl, ?_⟩
  | refine ⟨_, _, rfl, rfl, ?_⟩
  | refine ⟨_, rfl, rfl, ?_⟩
  | refine L3.fld_ok (by assumption) (by assumption) (by decide) rfl ?_
  | refine ⟨_, _, _, _, rfl, rfl, (by assumption), (by rfl), ?_⟩
  | refine ⟨_, _, _, _, rfl, rfl, (by assumption), at_ints (by walk_at "side") (by walk_at "side"), ?_⟩
  | refine ⟨_, _, rfl, ?_⟩
  | refine And.intro (by walk_at "side") ?_)
local macro_rules | `(tactic| walk_at "rd") => `(tactic| repeat (walk_at "rd1"))
section
variable {P : Program} {w : World} {K : PySem.W.Frag} {mg : Str → Option Value} {base : Heap}
/-- face i of what is handed in, moved: a list of three corners, all of them new since H0 -/
structure FaceAt (H0 H : Hp) (m cs index : List Int) (p : Addr) (i : Nat) : Prop where
  ex : ∃ a0 a1 a2 : Addr, H0 p = none ∧ H0 a0 = none ∧ H0 a1 = none ∧ H0 a2 = none ∧ H p = some (.lst [.ref a0, .ref a1, .ref a2]) ∧ H a0 = some (.lst ((cl (Sd21.moved m (Mx.cornerAt cs (index.getD (3 * i + 0) 0).toNat))).map V.int)) ∧
    H a1 = some (.lst ((cl (Sd21.moved m (Mx.cornerAt cs (index.getD (3 * i + 1) 0).toNat))).map V.int)) ∧ H a2 = some (.lst ((cl (Sd21.moved m (Mx.cornerAt cs (index.getD (3 * i + 2) 0).toNat))).map V.int))
theorem FaceAt.rest {H0 H H' : Hp} {m cs index : List Int} {p : Addr} {i : Nat} {xs : List Addr} (h : FaceAt H0 H m cs index p i) (r : Rest xs H H') (hx : ∀ a ∈ xs, H0 a ≠ none) : FaceAt H0 H' m cs index p i := by
  obtain ⟨a0, a1, a2, n, n0, n1, n2, q, q0, q1, q2⟩ := h.ex
  have off : ∀ a : Addr, H0 a = none → a ∉ xs := fun a ha hm => hx a hm ha
  exact ⟨a0, a1, a2, n, n0, n1, n2, r _ _ (off _ n) q, r _ _ (off _ n0) q0, r _ _ (off _ n1) q1, r _ _ (off _ n2) q2⟩
theorem drop_range (n a : Nat) (h : a + 3 ≤ n) : ((List.range n).drop a).take 3 = [a, a + 1, a + 2] := by
  apply List.ext_getElem?
  intro i
  by_cases hi : i < 3
  · rw [List.getElem?_take, if_pos hi, List.getElem?_drop, List.getElem?_range (by omega)]
    match i, hi with
    | 0, _ => rfl
    | 1, _ => rfl
    | 2, _ => rfl
  · rw [List.getElem?_take, if_neg hi, List.getElem?_eq_none (by simp; omega)]
theorem sc_moved_faces : FnScope ["m", "corners", "faces", "index", "moved", "named", "k", "start"] ["m", "corners", "faces", "index"] (defScope s_moved_faces) := ⟨rfl, rfl, rfl, by decide +kernel, rfl, by decide +kernel, by decide +kernel⟩
def spMovedFaces (K : PySem.W.Frag) : Sp := fun vs H Q _ => ∃ (am ac ai : Addr) (m cs index : List Int) (n fs : Nat), vs = [.ref am, .ref ac, .int fs, .ref ai] ∧ LI K H am m ∧ m.length = 16 ∧ (∀ z ∈ m, Mx.Bd 16777215 z) ∧ LI K H ac cs ∧ cs.length = 10 * n ∧ n ≤ 4096 ∧
  LI K H ai index ∧ index.length = 3 * fs ∧ fs ≤ 8192 ∧ (∀ z ∈ index, 0 ≤ z) ∧ (∀ z ∈ index, z.toNat < n) ∧
  ∀ (H' : Hp) (l : Addr) (ps : List Addr), Same H H' → H l = none → H' l = some (.lst (ps.map V.ref)) → ps.length = fs → (∀ i p, ps[i]? = some p → FaceAt H H' m cs index p i) → Q (.ref l) H'
theorem ok_movedFaces {f : Addr} {fd : FuncData} (F : Fun K "moved_faces" "moved_faces" s_moved_faces f fd) (m_range : mg "range" = none) (c_moved_corners : Can P w K mg base 3 "moved_corners" ["m", "corners"] (spMovedAll K)) :
    FnOk P w K mg base CX0 4 f fd ["m", "corners", "faces", "index"] (spMovedFaces K) := by
  refine F.ok sc_moved_faces (fun vs H Q E h => ?_) (fun cdv A outer s H vs Q E hr h => ?_)
  · obtain ⟨_, _, _, _, _, _, _, _, rfl, _⟩ := h
    rfl
  · obtain ⟨am, ac, ai, m, cs, index, n, fs, rfl, lm, ml, bd, lc, hcl, hn, li, hil, hfs, inn, ilt, k⟩ := h
    refine ⟨_, (pss_cons (ps_set (i := 4) sc_moved_faces.nd rfl (Or.inr rfl) (L3.pcan c_moved_corners (hr.mono (by decide)) (L3.pac (pv 0) (L3.pac (pv 1) pa_nil))))
      (pss_cons (ps_set (i := 5) sc_moved_faces.nd rfl (Or.inr rfl) (L3.lcval rfl sc_moved_faces.nd (pi_list (pv 3)) (blkOk_by (own := [("k", 6)]) rfl) (fun _ _ _ _ _ => (pg_name (i := 6) sc_moved_faces.nd rfl (Or.inl rfl) (Or.inr rfl))) (fun _ _ _ _ _ => (L3.ixL (K := K) (pv 4) (pv 6)))))
      (pss_one (ps_ret (L3.lcval rfl sc_moved_faces.nd (pi_range3 rfl m_range (L3.pac pe_int (L3.pac (pe_op op_mul pe_int (pv 2)) (L3.pac pe_int pa_nil)))) (blkOk_by (own := [("start", 7)]) rfl) (fun _ _ _ _ _ => (pg_name (i := 7) sc_moved_faces.nd rfl (Or.inl rfl) (Or.inr rfl))) (fun _ _ _ _ _ => (L3.slL (K := K) (pv 5) (po_some (pv 7)) (po_some (pe_op op_add (pv 7) pe_int))))))))), ?_⟩
    have szl : sizeLine = 16777216 := sizeLine_eq
    walk_at "rd"
    refine ⟨am, ac, m, cs, n, rfl, lm, ml, bd, lc, hcl, hn, fun H1 mv s1 hmv hLL => ?_⟩
    obtain ⟨as, hmv1, lena, has⟩ := hLL.ex
    have lenas : as.length = n := by rw [lena]; simp
    have li1 : LI K H1 ai index := s1.seq li
    let z : Nat → Nat := fun j => (index.getD j 0).toNat
    let nm : Nat → Addr := fun j => as.getD (z j) mv
    have imem : ∀ j, j < 3 * fs → index.getD j 0 ∈ index := fun j hj => by
      rw [List.getD_eq_getElem?_getD, List.getElem?_eq_getElem (show j < index.length by omega)]
      exact List.getElem_mem _
    have zlt : ∀ j, j < 3 * fs → z j < n := fun j hj => ilt _ (imem j hj)
    have anm : ∀ j, j < 3 * fs → as[z j]? = some (nm j) := fun j hj => by
      have := zlt j hj
      show as[z j]? = some (as.getD (z j) mv)
      rw [List.getD_eq_getElem?_getD, List.getElem?_eq_getElem (show z j < as.length by omega)]
      rfl
    have cor : ∀ j, j < 3 * fs → H (nm j) = none ∧ H1 (nm j) = some (.lst ((cl (Sd21.moved m (Mx.cornerAt cs (z j)))).map V.int)) := fun j hj => by
      obtain ⟨n1, c, q1, q2⟩ := has (z j) _ (anm j hj)
      rw [List.getElem?_map, List.getElem?_range (zlt j hj)] at q1
      cases q1
      exact ⟨n1, q2⟩
    walk_at "rd"
    refine ⟨⟨_, li1⟩, fun D hD => ?_⟩
    refine lcm_list (K := K) (fun j u _ => u = .ref (nm j)) hD li1 (by rw [List.length_map]; omega) (fun _ _ _ _ h _ => h) (fun j u HH Kt hu ss dl kt => ?_) (fun H2 ys s2 hL hl2 hY => ?_)
    · rw [List.getElem?_map] at hu
      cases eu : index[j]? with
      | none => rw [eu] at hu; cases hu
      | some x =>
        rw [eu] at hu
        cases hu
        have hj : j < 3 * fs := by have := (List.getElem?_eq_some_iff.mp eu).1; omega
        have ex : index.getD j 0 = x := by rw [List.getD_eq_getElem?_getD, eu]; rfl
        have hx : x = (z j : Int) := by
          have := inn _ (imem j hj)
          show x = (((index.getD j 0).toNat : Nat) : Int)
          omega
        subst hx
        have mvH : SqL K HH mv (as.map V.ref) := SqL.of (ss _ _ hmv1)
        have ea : (as.map V.ref)[z j]? = some (.ref (nm j)) := by rw [List.getElem?_map, anm j hj]; rfl
        refine ⟨rfl, ?_⟩
        refine ⟨_, rfl, _, rfl, mv, _, _, _, rfl, rfl, mvH, atI_nat ea, ?_⟩
        exact kt _ _ (Same.refl _) rfl
    rw [List.length_map, hil] at hl2
    have ey := items_by hl2 hY
    subst ey
    have s02 := s1.trans s2
    walk_at "rd"
    have rg : RgC 0 (3 * (fs : Int)) 3 fs := by
      have := rgc 3 fs (by decide) (by decide) (by omega)
      rw [Int.natCast_mul] at this
      exact this
    refine ⟨0, _, 3, fs, rfl, rg, fun D2 hD2 => ?_⟩
    refine lcm_rangeC (fun i u HH => ∃ p : Addr, u = .ref p ∧ H p = none ∧ p ≠ D2 ∧ HH p = some (.lst [.ref (nm (3 * i + 0)), .ref (nm (3 * i + 1)), .ref (nm (3 * i + 2))])) hD2 (by omega)
      (fun i u HH HH' h r => by
        obtain ⟨p, e, n1, n2, q⟩ := h
        exact ⟨p, e, n1, n2, r _ _ (by simpa using n2) q⟩)
      (fun i HH Kt hi ss dl kt => ?_) (fun H3 ys s3 hL3 hl3 hY3 => ?_)
    · have nmH : SqL K HH D ((List.range (3 * fs)).map fun j => V.ref (nm j)) := SqL.of (ss _ _ hL)
      refine ⟨rfl, ?_⟩
      walk_at "rd"
      refine ⟨D, _, rfl, nmH, fun pl hpl => ?_⟩
      have ec : cutV ((List.range (3 * fs)).map fun j => V.ref (nm j)) (some (0 + (i : Int) * 3)) (some (0 + (i : Int) * 3 + 3)) = [.ref (nm (3 * i + 0)), .ref (nm (3 * i + 1)), .ref (nm (3 * i + 2))] := by
        rw [show (0 : Int) + (i : Int) * 3 = ((3 * i : Nat) : Int) by omega, show ((3 * i : Nat) : Int) + 3 = ((3 * i + 3 : Nat) : Int) by omega, cut_nat _ _ (3 * i) (3 * i + 3) (by omega) (by rw [List.length_range]; omega), show 3 * i + 3 - 3 * i = 3 by omega, drop_range _ _ (by omega)]
        rfl
      rw [ec]
      obtain ⟨acc, hacc⟩ := dl
      refine kt _ _ (Same.put_new hpl) ⟨pl, rfl, (s02.trans ss).free hpl, fun e => ?_, upd_same⟩
      rw [e, hacc] at hpl
      cases hpl
    obtain ⟨ps, rfl⟩ := refs_of fun i u hu => let ⟨p, e, _⟩ := hY3 i u hu; ⟨p, e⟩
    rw [List.length_map] at hl3
    have s03 := s02.trans s3
    refine k H3 D2 ps s03 (s02.free hD2) hL3 hl3 fun i p hp => ?_
    obtain ⟨p', e, n1, _, q⟩ := hY3 i (.ref p) (by rw [List.getElem?_map, hp]; rfl)
    cases e
    have hi : i < fs := by have := (List.getElem?_eq_some_iff.mp hp).1; omega
    have c0 := cor (3 * i + 0) (by omega)
    have c1 := cor (3 * i + 1) (by omega)
    have c2 := cor (3 * i + 2) (by omega)
    have s13 := s2.trans s3
    exact ⟨_, _, _, n1, c0.1, c1.1, c2.1, q, s13 _ _ c0.2, s13 _ _ c1.2, s13 _ _ c2.2⟩
end
end Dw


end
section
set_option Elab.async false
set_option linter.all false
set_option maxRecDepth 100000
set_option maxHeartbeats 4000000
namespace Dw
open PySem PySem.Spec PyProof.Rows L2 L3
local macro_rules | `(tactic| walk_at "side") => `(tactic| first
  | assumption
  | omega
  | exact Or.inl ⟨by omega, by omega⟩
  | exact Or.inr ⟨by omega, by omega⟩
  | exact ⟨by omega, by omega⟩
  | exact ⟨by omega, by omega, by omega⟩
  | decide)
local macro_rules | `(tactic| walk_at "rd1") => `(tactic| first
  | refine ⟨_, rfl, ?_⟩
  | refine ⟨_, _, rfl, rfl, ?_⟩
  | refine ⟨_, rfl, rfl, ?_⟩
  | refine L3.fld_ok (by assumption) (by assumption) (by decide) rfl ?_
  | refine ⟨_, _, _, _, rfl, rfl, (by assumption), (by rfl), ?_⟩
  | refine ⟨_, _, _, _, rfl, rfl, (by assumption), at_ints (by walk_at "side") (by walk_at "side"), ?_⟩
  | refine ⟨_, _, rfl, ?_⟩
  | refine And.intro (by walk_at "side") ?_)
local macro_rules | `(tactic| walk_at "rd") => `(tactic| repeat (walk_at "rd1"))
section
variable {P : Program} {w : World} {K : PySem.W.Frag} {mg : Str → Option Value} {base : Heap}
theorem li_off {H : Hp} {a : Addr} {vs : List V} {xs : List Addr} (h : SqL K H a vs) (hx : ∀ x ∈ xs, H x = none) : a ∉ xs ∨ SqL K (fun _ => none) a vs := by
  have off : ∀ o, H a = some o → a ∉ xs := fun o ho hm => by rw [hx a hm] at ho; cases ho
  rcases h with (h | ⟨o, h⟩) | h
  · exact .inl (off _ h)
  · exact .inl (off _ h)
  · exact .inr (.inr h)
theorem four_of {l : List Int} (h : l.length = 4) : ∃ a b c d, l = [a, b, c, d] := by
  match l, h with
  | [a, b, c, d], _ => exact ⟨a, b, c, d, rfl⟩
theorem foldl_take_succ {α β : Type} (f : β → α → β) {l : List α} {n : Nat} {x : α} (h : l[n]? = some x) (b : β) : (l.take (n + 1)).foldl f b = f ((l.take n).foldl f b) x := by
  rw [List.take_succ, h, List.foldl_append]
  rfl
theorem sc_draw : FnScope ["w", "h", "n", "faces", "mode", "pix", "depth", "m", "corners", "index", "pattern", "window", "refusal", "canvas", "face", "triangle"] ["w", "h", "n", "faces", "mode", "pix", "depth", "m", "corners", "index", "pattern", "window"] (defScope s_draw) := ⟨rfl, rfl, rfl, by decide +kernel, rfl, by decide +kernel, by decide +kernel⟩
def spDraw (K : PySem.W.Frag) : Sp := fun vs H Q _ => ∃ (wd hd n fs mode : Int) (ax ay am ac ai at_ aw : Addr) (pix depth m cs index pattern window : List Int),
  vs = [.int wd, .int hd, .int n, .int fs, .int mode, .ref ax, .ref ay, .ref am, .ref ac, .ref ai, .ref at_, .ref aw] ∧ LI K H ax pix ∧ LI K H ay depth ∧ LI K H am m ∧ LI K H ac cs ∧ LI K H ai index ∧ LI K H at_ pattern ∧ LI K H aw window ∧
  Mx.DrawReq wd hd n fs mode pix depth m cs index pattern window ∧ ∀ (H' : Hp) (l : Addr), H' l = some (.lst ((PySd21.draw wd hd n fs mode pix depth m cs index pattern window).map V.int)) → Q (.ref l) H'
theorem ok_draw {f CC : Addr} {fd : FuncData} (F : Fun K "draw" "draw" s_draw f fd) (T_Canvas : Fields K CC nCanvas) (c_draw_refusal : Can P w K mg base 5 "draw_refusal" ["w", "h", "n", "faces", "mode", "depth", "m", "corners", "index", "window"] (spRefusal K))
    (c_Canvas : Makes P w K mg base 1 "Canvas" CC ["self", "w", "h", "mode", "pix", "depth", "pattern", "window"] (spCanvas K CC)) (c_moved_faces : Can P w K mg base 4 "moved_faces" ["m", "corners", "faces", "index"] (spMovedFaces K))
    (c_face_triangles : Can P w K mg base 3 "face_triangles" ["w", "h", "face"] (spFaceTri noSpot)) (c_draw_triangle : Can P w K mg base 8 "draw_triangle" ["canvas", "triangle"] (spTriangle K CC)) :
    FnOk P w K mg base CX0 9 f fd ["w", "h", "n", "faces", "mode", "pix", "depth", "m", "corners", "index", "pattern", "window"] (spDraw K) := by
  refine F.ok sc_draw (fun vs H Q E h => ?_) (fun cdv A outer s H vs Q E hr h => ?_)
  · obtain ⟨_, _, _, _, _, _, _, _, _, _, _, _, _, _, _, _, _, _, _, rfl, _⟩ := h
    rfl
  · obtain ⟨wd, hd, n, fs, mode, ax, ay, am, ac, ai, at_, aw, pix, depth, m, cs, index, pattern, window, rfl, lx, ly, lm, lc, li, lt, lw, R, k⟩ := h
    refine ⟨_, (pss_cons (ps_set (i := 12) sc_draw.nd rfl (Or.inl rfl) (L3.pcan c_draw_refusal (hr.mono (by decide)) (L3.pac (pv 0) (L3.pac (pv 1) (L3.pac (pv 2) (L3.pac (pv 3) (L3.pac (pv 4) (L3.pac (pv 6) (L3.pac (pv 7) (L3.pac (pv 8) (L3.pac (pv 9) (L3.pac (pv 11) pa_nil))))))))))))
      (pss_cons (ps_if (pt_cmpR op_lt (pv 12) pe_int (nomark _))
        (pss_one (ps_ret (pe_lst (L3.pac (pv 12) pa_nil))))
        pss_nil)
      (pss_cons (ps_set (i := 13) sc_draw.nd rfl (Or.inl rfl) (L3.pmake c_Canvas (hr.mono (by decide)) (L3.pac (pv 0) (L3.pac (pv 1) (L3.pac (pv 4) (L3.pac (pv 5) (L3.pac (pv 6) (L3.pac (pv 10) (L3.pac (pv 11) pa_nil)))))))))
      (L3.pss_cut (ps_for PassesOwn.never rfl (pi_list (L3.pcan c_moved_faces (hr.mono (by decide)) (L3.pac (pv 7) (L3.pac (pv 8) (L3.pac (pv 3) (L3.pac (pv 9) pa_nil)))))) (pg_name (i := 14) sc_draw.nd rfl (Or.inl rfl))
        (pss_one (ps_for PassesOwn.never rfl (pi_list (L3.pcan c_face_triangles (hr.mono (by decide)) (L3.pac (pv 0) (L3.pac (pv 1) (L3.pac (pv 14) pa_nil))))) (pg_name (i := 15) sc_draw.nd rfl (Or.inl rfl))
          (pss_one (ps_expr (L3.pcan c_draw_triangle (hr.mono (by decide)) (L3.pac (pv 13) (L3.pac (pv 15) pa_nil))))))))
      (pss_one (ps_ret (pe_op op_cat (pe_op op_cat (pe_lst (L3.pac pe_int pa_nil)) (L3.fldK (K := K) (pv 13))) (L3.fldK (K := K) (pv 13))))))))), ?_⟩
    walk_at "rd"
    refine ⟨wd, hd, n, fs, mode, ay, am, ac, ai, aw, depth, m, cs, index, window, rfl, ly, lm, lc, li, lw, R.bm.1, R.cl, fun z hz => (R.ib z hz).1, fun hsz => ?_, fun r H1 s1 hr1 => ?_⟩
    · have := R.dep.len hsz
      have := Mx.area_in hsz
      omega
    walk_at "rd"
    rcases hr1 with ⟨rfl, hbad⟩ | ⟨good, ⟨rfl, hbad⟩ | ⟨rfl, hR, hw, hdp⟩⟩
    · refine iteT ?_
      walk_at "rd"
      intro l hl
      refine k _ l ?_
      rw [upd_same, Mx.draw_first hbad]
      rfl
    · refine iteT ?_
      walk_at "rd"
      intro l hl
      refine k _ l ?_
      have hcl : (cs.length : Int) = 10 * n := R.cl (by unfold Mx.BadSizes at good; omega)
      rw [upd_same, Mx.draw_second good hcl hbad]
      rfl
    · refine iteF ?_
      have gs := good
      unfold Mx.BadSizes at gs
      have hsz : 1 ≤ wd ∧ wd ≤ 1024 ∧ 1 ≤ hd ∧ hd ≤ 1024 := by omega
      have hcl := R.cl (by omega)
      have hil := R.il (by omega)
      have due := Mx.draw_zero (pix := pix) (pattern := pattern) good hcl hil hR hw hdp
      have dim := Mx.dims_start R hsz hdp
      obtain ⟨x0, y0, x1, y1, rfl⟩ := four_of R.wl
      have b0 := Mx.small24 (hw x0 (by simp)); have b1 := Mx.small24 (hw y0 (by simp)); have b2 := Mx.small24 (hw x1 (by simp)); have b3 := Mx.small24 (hw y1 (by simp))
      rw [due] at k
      obtain ⟨wN, rfl⟩ := Int.eq_ofNat_of_zero_le (show 0 ≤ wd by omega)
      obtain ⟨hN, rfl⟩ := Int.eq_ofNat_of_zero_le (show 0 ≤ hd by omega)
      obtain ⟨nN, rfl⟩ := Int.eq_ofNat_of_zero_le (show 0 ≤ n by omega)
      obtain ⟨fN, rfl⟩ := Int.eq_ofNat_of_zero_le (show 0 ≤ fs by omega)
      obtain ⟨mN, rfl⟩ := Int.eq_ofNat_of_zero_le (show 0 ≤ mode by have := R.bm; omega)
      simp only [Int.toNat_natCast] at k dim hR
      clear due
      walk_at "rd"
      intro cv dx ncv ndx nex
      refine ⟨cv, dx, wN, hN, mN, ax, ay, at_, aw, pix, depth, x0, y0, x1, y1, H1, rfl, upd_same, fun b o e => by rw [upd_ne (ne_of_none e ncv), upd_ne (ne_of_none e ndx)]; exact e, ncv, s1.seq lx, s1.seq ly, s1.seq lw, by omega, fun H2 ap ad hcv fap fad nn hap had s2 => ⟨rfl, ?_⟩⟩
      have lm2 := (s1.trans s2).seq lm
      have lc2 := (s1.trans s2).seq lc
      have li2 := (s1.trans s2).seq li
      -- the canvas as it stands
      let md := Sd21.modeOf mN
      let tt := Sd21Neutral.nats pattern
      let v : Sd21.Window := ⟨x0, y0, x1, y1⟩
      let p0 : Sd21.Picture := ⟨wN, hN, Sd21Neutral.nats pix, Sd21Neutral.nats depth⟩
      have ex : Sd21Neutral.ints (Sd21Neutral.nats pix) = pix := Mx.ints_nats fun z hz => (R.pic.nn z hz).1
      have ey : Sd21Neutral.ints (Sd21Neutral.nats depth) = depth := Mx.ints_nats fun z hz => (R.dep.nn z hz).1
      have et : Sd21Neutral.ints (Sd21Neutral.nats pattern) = pattern := Mx.ints_nats fun z hz => (R.pb z hz).1
      have fr : ∀ x ∈ [ap, ad], H1 x = none := fun x hx => by
        have e' : x = ap ∨ x = ad := by simpa using hx
        rcases e' with rfl | rfl
        · exact fap
        · exact fad
      have B2 : Brd K CC H2 cv ap ad at_ wN hN (max v.x0 0) (max v.y0 0) (min v.x1 wN) (min v.y1 hN) md tt p0 := by
        refine ⟨hcv, ⟨?_, ?_, nn⟩, dim, ⟨?_, ?_, ?_, ?_⟩⟩
        · show H2 ap = some (.lst ((Sd21Neutral.ints (Sd21Neutral.nats pix)).map V.int))
          rw [ex]
          exact hap
        · show H2 ad = some (.lst ((Sd21Neutral.ints (Sd21Neutral.nats depth)).map V.int))
          rw [ey]
          exact had
        · show LI K H2 at_ (Sd21Neutral.ints (Sd21Neutral.nats pattern))
          rw [et]
          exact (s1.trans s2).seq lt
        · show at_ ∉ [ap, ad] ∨ LI K (fun _ => none) at_ (Sd21Neutral.ints (Sd21Neutral.nats pattern))
          rw [et]
          exact li_off (s1.seq lt) fr
        · show (Sd21Neutral.nats pattern).length = 4096
          rw [Mx.nats_len, R.pl]
        · intro x hx
          obtain ⟨y, hy, rfl⟩ := List.mem_map.mp hx
          have := R.pb y hy
          omega
      have offM : ∀ a : Addr, H2 a = none → a ∉ [ap, ad] := fun a ha hm => by
        have e' : a = ap ∨ a = ad := by simpa using hm
        rcases e' with rfl | rfl
        · rw [hap] at ha; cases ha
        · rw [had] at ha; cases ha
      have hx2 : ∀ a ∈ [ap, ad], H2 a ≠ none := fun a hm h => offM a h hm
      let upTo := Mx.facesUpTo m cs index md tt v p0
      have hil3 : index.length = 3 * fN := by omega
      have dU : ∀ i, i ≤ fN → Mx.Dims wN hN (upTo i) := fun i hi => Mx.Dims.faces dim hR hil3 md tt v hi
      let σ0 : L2.St := [some (.int wN), some (.int hN), some (.int nN), some (.int fN), some (.int mN), some (.ref ax), some (.ref ay), some (.ref am), some (.ref ac), some (.ref ai), some (.ref at_), some (.ref aw), some (.int 0), some (.ref cv)]
      refine ⟨fun σ' H' => ∃ o1 o2 : Option V, σ' = σ0 ++ [o1, o2] ∧ Brd K CC H' cv ap ad at_ wN hN (max v.x0 0) (max v.y0 0) (min v.x1 wN) (min v.y1 hN) md tt (upTo fN), ?_, ?_⟩
      · walk_at "rd"
        refine ⟨am, ac, ai, m, cs, index, nN, fN, rfl, lm2, R.ml, hR.bd, lc2, by omega, by omega, li2, hil3, by omega, fun z hz => (R.ib z hz).1, hR.ind, fun H3 fl ps s3 hfl hfls lenp hps => ?_⟩
        have B3 := B2.same s3
        refine ⟨fl, rfl, ⟨_, SqL.of hfls⟩, ?_⟩
        refine for_list (K := K) (a := fl) (xs := ps.map V.ref) (fun i σ' H' => (∃ o1 o2 : Option V, σ' = σ0 ++ [o1, o2]) ∧ Brd K CC H' cv ap ad at_ wN hN (max v.x0 0) (max v.y0 0) (min v.x1 wN) (min v.y1 hN) md tt (upTo i) ∧ Rest [ap, ad] H3 H')
          ⟨⟨none, none, rfl⟩, B3, Rest.refl _ _⟩ (fun i σ' H' _ h => SqL.of (h.2.2 _ _ (offM _ hfl) hfls)) ?_ ?_
        · rintro i u σ H4 hu ⟨⟨o1, o2, rfl⟩, B4, r4⟩
          obtain ⟨p, ep, rfl⟩ : ∃ p, ps[i]? = some p ∧ u = .ref p := by
            rw [List.getElem?_map] at hu
            cases eu : ps[i]? with
            | none => rw [eu] at hu; cases hu
            | some p => rw [eu] at hu; cases hu; exact ⟨p, rfl, rfl⟩
          have hi : i < fN := by have := (List.getElem?_eq_some_iff.mp ep).1; omega
          obtain ⟨a0, a1, a2, _, _, _, _, hp, ha0, ha1, ha2⟩ := ((hps i p ep).rest r4 hx2).ex
          let z : Nat → Nat := fun j => (index.getD (3 * i + j) 0).toNat
          have zlt : ∀ j, j < 3 → z j < nN := fun j hj => Mx.ind_lt hR.ind (by omega)
          have mid : ∀ j, j < 3 → Mx.MidC (Sd21.moved m (Mx.cornerAt cs (z j))) := fun j hj => Mx.moved_mid hR.bd (Mx.goodC (hR.cor _ (zlt j hj)))
          walk_at "rd"
          refine ⟨wN, hN, p, a0, a1, a2, _, _, _, rfl, by omega, by omega, hp, ha0, ha1, ha2, mid 0 (by omega), mid 1 (by omega), mid 2 (by omega), fun H7 x ts s7 hx hts hlen htri => ?_⟩
          have gT : ∀ e ∈ faceTris wN hN (Sd21.cut [Sd21.moved m (Mx.cornerAt cs (z 0)), Sd21.moved m (Mx.cornerAt cs (z 1)), Sd21.moved m (Mx.cornerAt cs (z 2))]) noSpot, Mx.GoodS e.1 ∧ Mx.GoodS e.2.1 ∧ Mx.GoodS e.2.2 := tris_good (Mx.cut_front fun c hc => by
            have hc' : c = Sd21.moved m (Mx.cornerAt cs (z 0)) ∨ c = Sd21.moved m (Mx.cornerAt cs (z 1)) ∨ c = Sd21.moved m (Mx.cornerAt cs (z 2)) := by simpa using hc
            rcases hc' with rfl | rfl | rfl
            · exact mid 0 (by omega)
            · exact mid 1 (by omega)
            · exact mid 2 (by omega))
          have stp : upTo (i + 1) = (faceTris wN hN (Sd21.cut [Sd21.moved m (Mx.cornerAt cs (z 0)), Sd21.moved m (Mx.cornerAt cs (z 1)), Sd21.moved m (Mx.cornerAt cs (z 2))]) noSpot).foldl (fun p e => Sd21.triangle md tt v e.1 e.2.1 e.2.2 p) (upTo i) := by
            have e1 : upTo (i + 1) = Sd21.face m md tt v (Mx.three cs index i) (upTo i) := Mx.foldl_range_succ _ _ _
            have d := dU i (by omega)
            rw [e1, face_eq m md tt v _ _ noSpot, d.wide, d.high]
            rfl
          change ts.length = (faceTris wN hN (Sd21.cut [Sd21.moved m (Mx.cornerAt cs (z 0)), Sd21.moved m (Mx.cornerAt cs (z 1)), Sd21.moved m (Mx.cornerAt cs (z 2))]) noSpot).length at hlen
          change ∀ (k : Nat) (t : Addr), ts[k]? = some t → ∃ e, (faceTris wN hN (Sd21.cut [Sd21.moved m (Mx.cornerAt cs (z 0)), Sd21.moved m (Mx.cornerAt cs (z 1)), Sd21.moved m (Mx.cornerAt cs (z 2))]) noSpot)[k]? = some e ∧ TriF H4 H7 t e at htri
          generalize faceTris wN hN (Sd21.cut [Sd21.moved m (Mx.cornerAt cs (z 0)), Sd21.moved m (Mx.cornerAt cs (z 1)), Sd21.moved m (Mx.cornerAt cs (z 2))]) noSpot = T at hlen htri gT stp
          have offX : ∀ a : Addr, H4 a = none → a ∉ [ap, ad] := fun a ha hm => by
            have e' : a = ap ∨ a = ad := by simpa using hm
            rcases e' with rfl | rfl
            · rw [B4.pic.pix] at ha; cases ha
            · rw [B4.pic.dep] at ha; cases ha
          have hx6 : ∀ a ∈ [ap, ad], H4 a ≠ none := fun a hm h => offX a h hm
          have B7 := B4.same s7
          rw [stp]
          refine ⟨x, rfl, ⟨_, SqL.of hts⟩, ?_⟩
          refine for_list (K := K) (a := x) (xs := ts.map V.ref) (fun j σ' H' => (∃ o3 : Option V, σ' = σ0 ++ [some (.ref p), o3]) ∧
              Brd K CC H' cv ap ad at_ wN hN (max v.x0 0) (max v.y0 0) (min v.x1 wN) (min v.y1 hN) md tt ((T.take j).foldl (fun p e => Sd21.triangle md tt v e.1 e.2.1 e.2.2 p) (upTo i)) ∧ Rest [ap, ad] H7 H')
            ⟨⟨_, rfl⟩, B7, Rest.refl _ _⟩ (fun j σ' H' _ h => SqL.of (h.2.2 _ _ (offX _ hx) hts)) ?_ ?_
          · rintro j u σ' H8 hu ⟨⟨o, rfl⟩, B8, r8⟩
            rw [List.getElem?_map] at hu
            cases eu : ts[j]? with
            | none => rw [eu] at hu; cases hu
            | some t =>
              rw [eu] at hu
              cases hu
              obtain ⟨e, he, hT⟩ := htri j t eu
              have ge := gT e (List.mem_of_getElem? he)
              have hT8 : Tri K H8 t e.1 e.2.1 e.2.2 := (hT.rest r8 hx6).tri
              rw [foldl_take_succ _ he]
              walk_at "rd"
              refine ⟨cv, t, ap, ad, at_, wN, hN, md, tt, _, v, e.1, e.2.1, e.2.2, rfl, by omega, by omega, B8, hT8, ge.1, ge.2.1, ge.2.2, b0, b1, b2, b3, fun H9 B9 r9 => ?_⟩
              exact ⟨⟨_, rfl⟩, B9, r8.trans r9⟩
          · rintro σ' H8 ⟨⟨o, rfl⟩, B8, r8⟩
            rw [List.length_map, hlen, List.take_length] at B8
            exact ⟨⟨_, _, rfl⟩, B8, (r4.trans s7.rest).trans r8⟩
        · rintro σ H4 ⟨⟨o1, o2, rfl⟩, B4, r4⟩
          rw [List.length_map, lenp] at B4
          exact ⟨o1, o2, rfl, B4⟩
      · rintro σ H' ⟨o1, o2, rfl, B'⟩
        have ak := Mx.area_in hsz
        have ek : ((wN * hN : Nat) : Int) = (wN : Int) * (hN : Int) := Int.natCast_mul ..
        have lp : (upTo fN).pix.length = wN * hN := B'.dim.pix
        have ld : (upTo fN).depth.length = wN * hN := B'.dim.dep
        have szl : sizeLine = 16777216 := sizeLine_eq
        walk_at "rd"
        intro q1 hq1
        have t1 : Same H' (upd H' q1 (.lst [.int 0])) := Same.put_new hq1
        have u1 : upd H' q1 (.lst [.int 0]) q1 = some (.lst [.int 0]) := upd_same
        generalize upd H' q1 (.lst [.int 0]) = J1 at t1 u1
        have B1 := B'.same t1
        have cv1 := B1.cvs
        walk_at "rd"
        refine ⟨q1, ap, _, _, rfl, rfl, u1, B1.pic.pix, by simp only [List.length_cons, List.length_nil, List.length_map, Mx.ints_len, lp]; omega, fun q2 hq2 => ?_⟩
        have t2 : Same J1 (upd J1 q2 (.lst ([.int 0] ++ (Sd21Neutral.ints (upTo fN).pix).map V.int))) := Same.put_new hq2
        have u2 : upd J1 q2 (.lst ([.int 0] ++ (Sd21Neutral.ints (upTo fN).pix).map V.int)) q2 = some (.lst ([.int 0] ++ (Sd21Neutral.ints (upTo fN).pix).map V.int)) := upd_same
        generalize upd J1 q2 (.lst ([.int 0] ++ (Sd21Neutral.ints (upTo fN).pix).map V.int)) = J2 at t2 u2
        have B2 := B1.same t2
        have cv2 := B2.cvs
        walk_at "rd"
        refine ⟨q2, ad, _, _, rfl, rfl, u2, B2.pic.dep, by simp only [List.length_append, List.length_cons, List.length_nil, List.length_map, Mx.ints_len, lp, ld]; omega, fun q3 hq3 => ?_⟩
        refine k _ q3 ?_
        rw [upd_same]
        show some (HO.lst _) = some (HO.lst ((0 :: (Sd21Neutral.ints (upTo fN).pix ++ Sd21Neutral.ints (upTo fN).depth)).map V.int))
        rw [List.map_cons, List.map_append]
        rfl
end
end Dw


end
section
set_option Elab.async false
set_option linter.all false
set_option maxRecDepth 100000
set_option maxHeartbeats 8000000
namespace Dw
open PySem PySem.Spec PyProof.Rows L2 L3
open PySem.W (Codec)
theorem req_draw (K : PySem.W.Frag) (H : Hp) (xs : List V) (a : Codec.denoteAll PySem.Challenge.rw_solidpicture_s02_draw.args) (hask : Codec.app PySem.Challenge.rw_solidpicture_s02_draw.args PySem.Challenge.rw_solidpicture_s02_draw.asked a = true) (hx : DwAll K H xs (Codec.encAll PySem.Challenge.rw_solidpicture_s02_draw.args a)) :
    spDraw K xs H (fun v H' => Dw K H' v (PySem.Challenge.rw_solidpicture_s02_draw.ret.enc (Codec.app PySem.Challenge.rw_solidpicture_s02_draw.args PySem.Challenge.rw_solidpicture_s02_draw.f a))) fun _ _ _ => False := by
  obtain ⟨w, h, n, fs, mode, pix, depth, m, cs, index, pattern, window, u⟩ := a
  have R : Mx.DrawReq w h n fs mode pix depth m cs index pattern window := Mx.draw_req hask
  obtain ⟨v1, r1, rfl, e1, hx⟩ := cons_dw hx
  obtain ⟨v2, r2, rfl, e2, hx⟩ := cons_dw hx
  obtain ⟨v3, r3, rfl, e3, hx⟩ := cons_dw hx
  obtain ⟨v4, r4, rfl, e4, hx⟩ := cons_dw hx
  obtain ⟨v5, r5, rfl, e5, hx⟩ := cons_dw hx
  obtain ⟨v6, r6, rfl, e6, hx⟩ := cons_dw hx
  obtain ⟨v7, r7, rfl, e7, hx⟩ := cons_dw hx
  obtain ⟨v8, r8, rfl, e8, hx⟩ := cons_dw hx
  obtain ⟨v9, r9, rfl, e9, hx⟩ := cons_dw hx
  obtain ⟨v10, r10, rfl, e10, hx⟩ := cons_dw hx
  obtain ⟨v11, r11, rfl, e11, hx⟩ := cons_dw hx
  obtain ⟨v12, r12, rfl, e12, hx⟩ := cons_dw hx
  cases hx
  have i1 := int_dw (n := w) e1
  have i2 := int_dw (n := h) e2
  have i3 := int_dw (n := n) e3
  have i4 := int_dw (n := fs) e4
  have i5 := int_dw (n := mode) e5
  obtain ⟨a6, i6, l6⟩ := list_dw (ns := pix) e6
  obtain ⟨a7, i7, l7⟩ := list_dw (ns := depth) e7
  obtain ⟨a8, i8, l8⟩ := list_dw (ns := m) e8
  obtain ⟨a9, i9, l9⟩ := list_dw (ns := cs) e9
  obtain ⟨a10, i10, l10⟩ := list_dw (ns := index) e10
  obtain ⟨a11, i11, l11⟩ := list_dw (ns := pattern) e11
  obtain ⟨a12, i12, l12⟩ := list_dw (ns := window) e12
  subst i1 i2 i3 i4 i5 i6 i7 i8 i9 i10 i11 i12
  exact ⟨w, h, n, fs, mode, a6, a7, a8, a9, a10, a11, a12, pix, depth, m, cs, index, pattern, window, rfl, l6, l7, l8, l9, l10, l11, l12, R, fun H' l hl => .lst (L2.SqL.of hl) (L2.dw_ints _)⟩
end Dw


end
section
set_option Elab.async false
set_option linter.all false
set_option maxRecDepth 100000
set_option maxHeartbeats 8000000
namespace Dw
open PySem PySem.Spec PySem.W PyProof.Rows L2 L3
abbrev en (P : Params) (x : Str) (t : Tok) (v : Value) : DictEntry := ⟨PyData.keyHash P x, .str x t, v⟩
noncomputable def kTop : Params → Frag := fun P =>
  (nat_lit 2, { cls := .none, data := Data.dict #[] }) ::
  (nat_lit 3, { cls := .type "dict", data := Data.dict #[en P "__name__" 165 (.str (Str.ofString "solidpicture.drawing") 635), en P "__doc__" 166 (.none), en P "__package__" 167 (.none), en P "__loader__" 168 (.builtin "__main__.__loader__#opaque"), en P "__spec__" 169 (.none), en P "__annotations__" 170 (.ref 6), en P "__builtins__" 171 (.ref 4), en P "__file__" 173 (.str (Str.ofString "/claim/cut.py") 172), en P "__cached__" 174 (.none), en P "LONGEST_SIDE" 190 (.int 1024 189), en P "MOST_CORNERS" 192 (.int 4096 191), en P "MOST_FACES" 194 (.int 8192 193), en P "HIGHEST_MODE" 196 (.int 63 195), en P "BEYOND" 198 (.int 16777216 197), en P "FARTHEST_DEPTH" 200 (.int 16777215 199), en P "HIGHEST_COLOR" 202 (.int 65535 201), en P "CORNER_NUMBERS" 204 (.int 10 203), en P "COLOR_PLACES" 209 (.ref 15), en P "is_picture_size" 217 (.ref 22), en P "are_counts" 225 (.ref 29), en P "is_mode" 232 (.ref 36), en P "are_plain_numbers" 239 (.ref 43), en P "are_colors" 246 (.ref 50), en P "are_corners" 256 (.ref 57), en P "is_solid" 266 (.ref 64), en P "faces_refusal" 279 (.ref 71), en P "draw_refusal" 296 (.ref 78), en P "CUT_W" 300 (.int 4096 299), en P "FARTHEST_PLACE" 302 (.int 32768 301), en P "MIDDLE_DEPTH" 304 (.int 8388608 303), en P "ONE_SHARE" 306 (.int 268435456 305), en P "times" 312 (.ref 83), en P "moved_corner" 318 (.ref 88), en P "moved_corners" 324 (.ref 93), en P "moved_faces" 330 (.ref 98), en P "is_in_front" 337 (.ref 105), en P "crossing" 343 (.ref 110), en P "cut_face" 353 (.ref 117), en P "put_corner" 367 (.ref 124), en P "is_near" 374 (.ref 131), en P "face_triangles" 380 (.ref 136), en P "turn" 390 (.ref 143), en P "PATTERN_SIDE" 394 (.int 64 393), en P "product" 402 (.ref 150), en P "split_pixel" 409 (.ref 157), en P "joined_pixel" 416 (.ref 164), en P "patterned" 422 (.ref 169), en P "mixed" 428 (.ref 174), en P "PIXEL" 432 (.int 16 431), en P "MIDDLE" 434 (.int 8 433), en P "Canvas" 482 (.ref 191), en P "Slope" 524 (.ref 219), en P "Shade" 554 (.ref 238), en P "edge_slope" 565 (.ref 249), en P "weighted" 571 (.ref 254), en P "shared" 577 (.ref 259), en P "least_inside" 586 (.ref 266), en P "row_span" 599 (.ref 273), en P "new_pixel" 605 (.ref 278), en P "draw_row" 619 (.ref 285), en P "fill_triangle" 625 (.ref 290), en P "draw_triangle" 634 (.ref 297), en P "draw" 658 (.ref 304)] 63 }) ::
  (nat_lit 15, { cls := .type "tuple", data := Data.seq #[.int 4 205, .int 5 206, .int 6 207, .int 7 208] }) ::
  (nat_lit 21, { cls := .type "code", data := Data.fields #[.str (Str.ofString "is_picture_size") 210, .str (Str.ofString "is_picture_size") 211, .str (Str.ofString "/claim/cut.py") 212, .int 11 0, .int 2 0, .int 0 0, .int 0 0, .int 3 0, .ref 16, .bool true, .int 181 0, .ref 17, .none, .ref 18, .ref 19, .ref 20, .int 215 0, .int 11 0, .str (Str.ofString "/claim/cut.py") 216] }) ::
  (nat_lit 22, ⟨.type "function", none, .func (PySem.W.fnOf (Str.ofString "is_picture_size") (Str.ofString "is_picture_size") (defArgs s_is_picture_size) (defBody s_is_picture_size) (defScope s_is_picture_size) .none (.none) (.none) (.str (Str.ofString "solidpicture.limits") 187) (none) (.ref 21) (.none)), #[]⟩) ::
  (nat_lit 28, { cls := .type "code", data := Data.fields #[.str (Str.ofString "are_counts") 218, .str (Str.ofString "are_counts") 219, .str (Str.ofString "/claim/cut.py") 220, .int 13 0, .int 2 0, .int 0 0, .int 0 0, .int 3 0, .ref 23, .bool true, .int 181 0, .ref 24, .none, .ref 25, .ref 26, .ref 27, .int 223 0, .int 13 0, .str (Str.ofString "/claim/cut.py") 224] }) ::
  (nat_lit 29, ⟨.type "function", none, .func (PySem.W.fnOf (Str.ofString "are_counts") (Str.ofString "are_counts") (defArgs s_are_counts) (defBody s_are_counts) (defScope s_are_counts) .none (.none) (.none) (.str (Str.ofString "solidpicture.limits") 187) (none) (.ref 28) (.none)), #[]⟩) ::
  (nat_lit 35, { cls := .type "code", data := Data.fields #[.str (Str.ofString "is_mode") 226, .str (Str.ofString "is_mode") 227, .str (Str.ofString "/claim/cut.py") 228, .int 15 0, .int 1 0, .int 0 0, .int 0 0, .int 3 0, .ref 30, .bool true, .int 181 0, .ref 31, .none, .ref 32, .ref 33, .ref 34, .int 230 0, .int 15 0, .str (Str.ofString "/claim/cut.py") 231] }) ::
  (nat_lit 36, ⟨.type "function", none, .func (PySem.W.fnOf (Str.ofString "is_mode") (Str.ofString "is_mode") (defArgs s_is_mode) (defBody s_is_mode) (defScope s_is_mode) .none (.none) (.none) (.str (Str.ofString "solidpicture.limits") 187) (none) (.ref 35) (.none)), #[]⟩) ::
  (nat_lit 42, { cls := .type "code", data := Data.fields #[.str (Str.ofString "are_plain_numbers") 233, .str (Str.ofString "are_plain_numbers") 234, .str (Str.ofString "/claim/cut.py") 235, .int 17 0, .int 1 0, .int 0 0, .int 0 0, .int 3 0, .ref 37, .bool true, .int 181 0, .ref 38, .none, .ref 39, .ref 40, .ref 41, .int 237 0, .int 17 0, .str (Str.ofString "/claim/cut.py") 238] }) ::
  (nat_lit 43, ⟨.type "function", none, .func (PySem.W.fnOf (Str.ofString "are_plain_numbers") (Str.ofString "are_plain_numbers") (defArgs s_are_plain_numbers) (defBody s_are_plain_numbers) (defScope s_are_plain_numbers) .none (.none) (.none) (.str (Str.ofString "solidpicture.limits") 187) (none) (.ref 42) (.none)), #[]⟩) ::
  (nat_lit 49, { cls := .type "code", data := Data.fields #[.str (Str.ofString "are_colors") 240, .str (Str.ofString "are_colors") 241, .str (Str.ofString "/claim/cut.py") 242, .int 19 0, .int 1 0, .int 0 0, .int 0 0, .int 3 0, .ref 44, .bool true, .int 181 0, .ref 45, .none, .ref 46, .ref 47, .ref 48, .int 244 0, .int 19 0, .str (Str.ofString "/claim/cut.py") 245] }) ::
  (nat_lit 50, ⟨.type "function", none, .func (PySem.W.fnOf (Str.ofString "are_colors") (Str.ofString "are_colors") (defArgs s_are_colors) (defBody s_are_colors) (defScope s_are_colors) .none (.none) (.none) (.str (Str.ofString "solidpicture.limits") 187) (none) (.ref 49) (.none)), #[]⟩) ::
  (nat_lit 56, { cls := .type "code", data := Data.fields #[.str (Str.ofString "are_corners") 247, .str (Str.ofString "are_corners") 248, .str (Str.ofString "/claim/cut.py") 249, .int 21 0, .int 1 0, .int 0 0, .int 0 0, .int 3 0, .ref 51, .bool true, .int 181 0, .ref 52, .none, .ref 53, .ref 54, .ref 55, .int 254 0, .int 21 0, .str (Str.ofString "/claim/cut.py") 255] }) ::
  (nat_lit 57, ⟨.type "function", none, .func (PySem.W.fnOf (Str.ofString "are_corners") (Str.ofString "are_corners") (defArgs s_are_corners) (defBody s_are_corners) (defScope s_are_corners) .none (.none) (.none) (.str (Str.ofString "solidpicture.limits") 187) (none) (.ref 56) (.none)), #[]⟩) ::
  (nat_lit 63, { cls := .type "code", data := Data.fields #[.str (Str.ofString "is_solid") 257, .str (Str.ofString "is_solid") 258, .str (Str.ofString "/claim/cut.py") 259, .int 31 0, .int 4 0, .int 0 0, .int 0 0, .int 3 0, .ref 58, .bool true, .int 181 0, .ref 59, .none, .ref 60, .ref 61, .ref 62, .int 264 0, .int 31 0, .str (Str.ofString "/claim/cut.py") 265] }) ::
  (nat_lit 64, ⟨.type "function", none, .func (PySem.W.fnOf (Str.ofString "is_solid") (Str.ofString "is_solid") (defArgs s_is_solid) (defBody s_is_solid) (defScope s_is_solid) .none (.none) (.none) (.str (Str.ofString "solidpicture.limits") 187) (none) (.ref 63) (.none)), #[]⟩) ::
  (nat_lit 70, { cls := .type "code", data := Data.fields #[.str (Str.ofString "faces_refusal") 267, .str (Str.ofString "faces_refusal") 268, .str (Str.ofString "/claim/cut.py") 269, .int 33 0, .int 7 0, .int 0 0, .int 0 0, .int 3 0, .ref 65, .bool true, .int 181 0, .ref 66, .none, .ref 67, .ref 68, .ref 69, .int 277 0, .int 33 0, .str (Str.ofString "/claim/cut.py") 278] }) ::
  (nat_lit 71, ⟨.type "function", none, .func (PySem.W.fnOf (Str.ofString "faces_refusal") (Str.ofString "faces_refusal") (defArgs s_faces_refusal) (defBody s_faces_refusal) (defScope s_faces_refusal) .none (.none) (.none) (.str (Str.ofString "solidpicture.limits") 187) (none) (.ref 70) (.none)), #[]⟩) ::
  (nat_lit 77, { cls := .type "code", data := Data.fields #[.str (Str.ofString "draw_refusal") 280, .str (Str.ofString "draw_refusal") 281, .str (Str.ofString "/claim/cut.py") 282, .int 39 0, .int 10 0, .int 0 0, .int 0 0, .int 3 0, .ref 72, .bool true, .int 181 0, .ref 73, .none, .ref 74, .ref 75, .ref 76, .int 294 0, .int 39 0, .str (Str.ofString "/claim/cut.py") 295] }) ::
  (nat_lit 78, ⟨.type "function", none, .func (PySem.W.fnOf (Str.ofString "draw_refusal") (Str.ofString "draw_refusal") (defArgs s_draw_refusal) (defBody s_draw_refusal) (defScope s_draw_refusal) .none (.none) (.none) (.str (Str.ofString "solidpicture.limits") 187) (none) (.ref 77) (.none)), #[]⟩) ::
  (nat_lit 82, { cls := .type "code", data := Data.fields #[.str (Str.ofString "times") 307, .str (Str.ofString "times") 308, .str (Str.ofString "/claim/cut.py") 309, .int 53 0, .int 2 0, .int 0 0, .int 0 0, .int 3 0, .ref 79, .bool true, .int 181 0, .ref 80, .none, .none, .none, .ref 81, .int 310 0, .int 53 0, .str (Str.ofString "/claim/cut.py") 311] }) ::
  (nat_lit 83, ⟨.type "function", none, .func (PySem.W.fnOf (Str.ofString "times") (Str.ofString "times") (defArgs s_times) (defBody s_times) (defScope s_times) .none (.none) (.none) (.str (Str.ofString "solidpicture.placing") 297) (none) (.ref 82) (.none)), #[]⟩) ::
  (nat_lit 87, { cls := .type "code", data := Data.fields #[.str (Str.ofString "moved_corner") 313, .str (Str.ofString "moved_corner") 314, .str (Str.ofString "/claim/cut.py") 315, .int 55 0, .int 2 0, .int 0 0, .int 0 0, .int 3 0, .ref 84, .bool true, .int 181 0, .ref 85, .none, .none, .none, .ref 86, .int 316 0, .int 55 0, .str (Str.ofString "/claim/cut.py") 317] }) ::
  (nat_lit 88, ⟨.type "function", none, .func (PySem.W.fnOf (Str.ofString "moved_corner") (Str.ofString "moved_corner") (defArgs s_moved_corner) (defBody s_moved_corner) (defScope s_moved_corner) .none (.none) (.none) (.str (Str.ofString "solidpicture.placing") 297) (none) (.ref 87) (.none)), #[]⟩) ::
  (nat_lit 92, { cls := .type "code", data := Data.fields #[.str (Str.ofString "moved_corners") 319, .str (Str.ofString "moved_corners") 320, .str (Str.ofString "/claim/cut.py") 321, .int 58 0, .int 2 0, .int 0 0, .int 0 0, .int 3 0, .ref 89, .bool true, .int 181 0, .ref 90, .none, .none, .none, .ref 91, .int 322 0, .int 58 0, .str (Str.ofString "/claim/cut.py") 323] }) ::
  (nat_lit 93, ⟨.type "function", none, .func (PySem.W.fnOf (Str.ofString "moved_corners") (Str.ofString "moved_corners") (defArgs s_moved_corners) (defBody s_moved_corners) (defScope s_moved_corners) .none (.none) (.none) (.str (Str.ofString "solidpicture.placing") 297) (none) (.ref 92) (.none)), #[]⟩) ::
  (nat_lit 97, { cls := .type "code", data := Data.fields #[.str (Str.ofString "moved_faces") 325, .str (Str.ofString "moved_faces") 326, .str (Str.ofString "/claim/cut.py") 327, .int 61 0, .int 4 0, .int 0 0, .int 0 0, .int 3 0, .ref 94, .bool true, .int 181 0, .ref 95, .none, .none, .none, .ref 96, .int 328 0, .int 61 0, .str (Str.ofString "/claim/cut.py") 329] }) ::
  (nat_lit 98, ⟨.type "function", none, .func (PySem.W.fnOf (Str.ofString "moved_faces") (Str.ofString "moved_faces") (defArgs s_moved_faces) (defBody s_moved_faces) (defScope s_moved_faces) .none (.none) (.none) (.str (Str.ofString "solidpicture.placing") 297) (none) (.ref 97) (.none)), #[]⟩) ::
  (nat_lit 104, { cls := .type "code", data := Data.fields #[.str (Str.ofString "is_in_front") 331, .str (Str.ofString "is_in_front") 332, .str (Str.ofString "/claim/cut.py") 333, .int 65 0, .int 1 0, .int 0 0, .int 0 0, .int 3 0, .ref 99, .bool true, .int 181 0, .ref 100, .none, .ref 101, .ref 102, .ref 103, .int 335 0, .int 65 0, .str (Str.ofString "/claim/cut.py") 336] }) ::
  (nat_lit 105, ⟨.type "function", none, .func (PySem.W.fnOf (Str.ofString "is_in_front") (Str.ofString "is_in_front") (defArgs s_is_in_front) (defBody s_is_in_front) (defScope s_is_in_front) .none (.none) (.none) (.str (Str.ofString "solidpicture.placing") 297) (none) (.ref 104) (.none)), #[]⟩) ::
  (nat_lit 109, { cls := .type "code", data := Data.fields #[.str (Str.ofString "crossing") 338, .str (Str.ofString "crossing") 339, .str (Str.ofString "/claim/cut.py") 340, .int 67 0, .int 2 0, .int 0 0, .int 0 0, .int 3 0, .ref 106, .bool true, .int 181 0, .ref 107, .none, .none, .none, .ref 108, .int 341 0, .int 67 0, .str (Str.ofString "/claim/cut.py") 342] }) ::
  (nat_lit 110, ⟨.type "function", none, .func (PySem.W.fnOf (Str.ofString "crossing") (Str.ofString "crossing") (defArgs s_crossing) (defBody s_crossing) (defScope s_crossing) .none (.none) (.none) (.str (Str.ofString "solidpicture.placing") 297) (none) (.ref 109) (.none)), #[]⟩) ::
  (nat_lit 116, { cls := .type "code", data := Data.fields #[.str (Str.ofString "cut_face") 344, .str (Str.ofString "cut_face") 345, .str (Str.ofString "/claim/cut.py") 346, .int 72 0, .int 1 0, .int 0 0, .int 0 0, .int 3 0, .ref 111, .bool true, .int 181 0, .ref 112, .none, .ref 113, .ref 114, .ref 115, .int 351 0, .int 72 0, .str (Str.ofString "/claim/cut.py") 352] }) ::
  (nat_lit 117, ⟨.type "function", none, .func (PySem.W.fnOf (Str.ofString "cut_face") (Str.ofString "cut_face") (defArgs s_cut_face) (defBody s_cut_face) (defScope s_cut_face) .none (.none) (.none) (.str (Str.ofString "solidpicture.placing") 297) (none) (.ref 116) (.none)), #[]⟩) ::
  (nat_lit 123, { cls := .type "code", data := Data.fields #[.str (Str.ofString "put_corner") 354, .str (Str.ofString "put_corner") 355, .str (Str.ofString "/claim/cut.py") 356, .int 82 0, .int 3 0, .int 0 0, .int 0 0, .int 3 0, .ref 118, .bool true, .int 181 0, .ref 119, .none, .ref 120, .ref 121, .ref 122, .int 365 0, .int 82 0, .str (Str.ofString "/claim/cut.py") 366] }) ::
  (nat_lit 124, ⟨.type "function", none, .func (PySem.W.fnOf (Str.ofString "put_corner") (Str.ofString "put_corner") (defArgs s_put_corner) (defBody s_put_corner) (defScope s_put_corner) .none (.none) (.none) (.str (Str.ofString "solidpicture.placing") 297) (none) (.ref 123) (.none)), #[]⟩) ::
  (nat_lit 130, { cls := .type "code", data := Data.fields #[.str (Str.ofString "is_near") 368, .str (Str.ofString "is_near") 369, .str (Str.ofString "/claim/cut.py") 370, .int 89 0, .int 1 0, .int 0 0, .int 0 0, .int 3 0, .ref 125, .bool true, .int 181 0, .ref 126, .none, .ref 127, .ref 128, .ref 129, .int 372 0, .int 89 0, .str (Str.ofString "/claim/cut.py") 373] }) ::
  (nat_lit 131, ⟨.type "function", none, .func (PySem.W.fnOf (Str.ofString "is_near") (Str.ofString "is_near") (defArgs s_is_near) (defBody s_is_near) (defScope s_is_near) .none (.none) (.none) (.str (Str.ofString "solidpicture.placing") 297) (none) (.ref 130) (.none)), #[]⟩) ::
  (nat_lit 135, { cls := .type "code", data := Data.fields #[.str (Str.ofString "face_triangles") 375, .str (Str.ofString "face_triangles") 376, .str (Str.ofString "/claim/cut.py") 377, .int 91 0, .int 3 0, .int 0 0, .int 0 0, .int 3 0, .ref 132, .bool true, .int 181 0, .ref 133, .none, .none, .none, .ref 134, .int 378 0, .int 91 0, .str (Str.ofString "/claim/cut.py") 379] }) ::
  (nat_lit 136, ⟨.type "function", none, .func (PySem.W.fnOf (Str.ofString "face_triangles") (Str.ofString "face_triangles") (defArgs s_face_triangles) (defBody s_face_triangles) (defScope s_face_triangles) .none (.none) (.none) (.str (Str.ofString "solidpicture.placing") 297) (none) (.ref 135) (.none)), #[]⟩) ::
  (nat_lit 142, { cls := .type "code", data := Data.fields #[.str (Str.ofString "turn") 381, .str (Str.ofString "turn") 382, .str (Str.ofString "/claim/cut.py") 383, .int 96 0, .int 1 0, .int 0 0, .int 0 0, .int 3 0, .ref 137, .bool true, .int 181 0, .ref 138, .none, .ref 139, .ref 140, .ref 141, .int 388 0, .int 96 0, .str (Str.ofString "/claim/cut.py") 389] }) ::
  (nat_lit 143, ⟨.type "function", none, .func (PySem.W.fnOf (Str.ofString "turn") (Str.ofString "turn") (defArgs s_turn) (defBody s_turn) (defScope s_turn) .none (.none) (.none) (.str (Str.ofString "solidpicture.placing") 297) (none) (.ref 142) (.none)), #[]⟩) ::
  (nat_lit 149, { cls := .type "code", data := Data.fields #[.str (Str.ofString "product") 395, .str (Str.ofString "product") 396, .str (Str.ofString "/claim/cut.py") 397, .int 103 0, .int 2 0, .int 0 0, .int 0 0, .int 3 0, .ref 144, .bool true, .int 181 0, .ref 145, .none, .ref 146, .ref 147, .ref 148, .int 400 0, .int 103 0, .str (Str.ofString "/claim/cut.py") 401] }) ::
  (nat_lit 150, ⟨.type "function", none, .func (PySem.W.fnOf (Str.ofString "product") (Str.ofString "product") (defArgs s_product) (defBody s_product) (defScope s_product) .none (.none) (.none) (.str (Str.ofString "solidpicture.colors") 391) (none) (.ref 149) (.none)), #[]⟩) ::
  (nat_lit 156, { cls := .type "code", data := Data.fields #[.str (Str.ofString "split_pixel") 403, .str (Str.ofString "split_pixel") 404, .str (Str.ofString "/claim/cut.py") 405, .int 105 0, .int 1 0, .int 0 0, .int 0 0, .int 3 0, .ref 151, .bool true, .int 181 0, .ref 152, .none, .ref 153, .ref 154, .ref 155, .int 407 0, .int 105 0, .str (Str.ofString "/claim/cut.py") 408] }) ::
  (nat_lit 157, ⟨.type "function", none, .func (PySem.W.fnOf (Str.ofString "split_pixel") (Str.ofString "split_pixel") (defArgs s_split_pixel) (defBody s_split_pixel) (defScope s_split_pixel) .none (.none) (.none) (.str (Str.ofString "solidpicture.colors") 391) (none) (.ref 156) (.none)), #[]⟩) ::
  (nat_lit 163, { cls := .type "code", data := Data.fields #[.str (Str.ofString "joined_pixel") 410, .str (Str.ofString "joined_pixel") 411, .str (Str.ofString "/claim/cut.py") 412, .int 107 0, .int 1 0, .int 0 0, .int 0 0, .int 3 0, .ref 158, .bool true, .int 181 0, .ref 159, .none, .ref 160, .ref 161, .ref 162, .int 414 0, .int 107 0, .str (Str.ofString "/claim/cut.py") 415] }) ::
  (nat_lit 164, ⟨.type "function", none, .func (PySem.W.fnOf (Str.ofString "joined_pixel") (Str.ofString "joined_pixel") (defArgs s_joined_pixel) (defBody s_joined_pixel) (defScope s_joined_pixel) .none (.none) (.none) (.str (Str.ofString "solidpicture.colors") 391) (none) (.ref 163) (.none)), #[]⟩) ::
  (nat_lit 168, { cls := .type "code", data := Data.fields #[.str (Str.ofString "patterned") 417, .str (Str.ofString "patterned") 418, .str (Str.ofString "/claim/cut.py") 419, .int 109 0, .int 4 0, .int 0 0, .int 0 0, .int 3 0, .ref 165, .bool true, .int 181 0, .ref 166, .none, .none, .none, .ref 167, .int 420 0, .int 109 0, .str (Str.ofString "/claim/cut.py") 421] }) ::
  (nat_lit 169, ⟨.type "function", none, .func (PySem.W.fnOf (Str.ofString "patterned") (Str.ofString "patterned") (defArgs s_patterned) (defBody s_patterned) (defScope s_patterned) .none (.none) (.none) (.str (Str.ofString "solidpicture.colors") 391) (none) (.ref 168) (.none)), #[]⟩) ::
  (nat_lit 173, { cls := .type "code", data := Data.fields #[.str (Str.ofString "mixed") 423, .str (Str.ofString "mixed") 424, .str (Str.ofString "/claim/cut.py") 425, .int 114 0, .int 2 0, .int 0 0, .int 0 0, .int 3 0, .ref 170, .bool true, .int 181 0, .ref 171, .none, .none, .none, .ref 172, .int 426 0, .int 114 0, .str (Str.ofString "/claim/cut.py") 427] }) ::
  (nat_lit 174, ⟨.type "function", none, .func (PySem.W.fnOf (Str.ofString "mixed") (Str.ofString "mixed") (defArgs s_mixed) (defBody s_mixed) (defScope s_mixed) .none (.none) (.none) (.str (Str.ofString "solidpicture.colors") 391) (none) (.ref 173) (.none)), #[]⟩) ::
  (nat_lit 187, { cls := .type "code", data := Data.fields #[.str (Str.ofString "__init__") 447, .str (Str.ofString "Canvas.__init__") 448, .str (Str.ofString "/claim/cut.py") 449, .int 124 0, .int 8 0, .int 0 0, .int 0 0, .int 3 0, .ref 182, .bool true, .int 181 0, .ref 183, .none, .ref 184, .ref 185, .ref 186, .int 458 0, .int 124 0, .str (Str.ofString "/claim/cut.py") 459] }) ::
  (nat_lit 188, ⟨.type "function", none, .func (PySem.W.fnOf (Str.ofString "__init__") (Str.ofString "Canvas.__init__") (defArgs s_Canvas_init) (defBody s_Canvas_init) (defScope s_Canvas_init) .none (.none) (.none) (.str (Str.ofString "solidpicture.triangles") 429) (none) (.ref 187) (.none)), #[]⟩) ::
  (nat_lit 190, { cls := .type "dict", data := Data.dict #[en P "__module__" 442 (.str (Str.ofString "solidpicture.triangles") 429), en P "__firstlineno__" 446 (.int 122 445), en P "__init__" 460 (.ref 188), en P "__static_attributes__" 475 (.ref 189), en P "__dict__" 477 (.ref 192), en P "__weakref__" 479 (.ref 193), en P "__doc__" 480 (.none)] 4 }) ::
  (nat_lit 191, { cls := .type "type", data := Data.cls { name := Str.ofString "Canvas", bases := [.type "object"], mro := [.ref 191, .type "object"], ns := 190, qualname := Str.ofString "Canvas" }, slots := #[none, none, some (.str (Str.ofString "Canvas") 435), some (.str (Str.ofString "Canvas") 443), some (.builtin "object.__new__"), some (.bool true)] }) ::
  (nat_lit 192, { cls := .type "getset_descriptor", data := Data.fields #[.str (Str.ofString "__dict__") 476, .ref 191, .builtin "function.__dict__", .builtin "function.__dict__#set"] }) ::
  (nat_lit 193, { cls := .type "getset_descriptor", data := Data.fields #[.str (Str.ofString "__weakref__") 478, .ref 191, .builtin "ExceptionGroup.__weakref__", .none] }) ::
  (nat_lit 208, { cls := .type "code", data := Data.fields #[.str (Str.ofString "__init__") 495, .str (Str.ofString "Slope.__init__") 496, .str (Str.ofString "/claim/cut.py") 497, .int 141 0, .int 4 0, .int 0 0, .int 0 0, .int 3 0, .ref 203, .bool true, .int 181 0, .ref 204, .none, .ref 205, .ref 206, .ref 207, .int 502 0, .int 141 0, .str (Str.ofString "/claim/cut.py") 503] }) ::
  (nat_lit 209, ⟨.type "function", none, .func (PySem.W.fnOf (Str.ofString "__init__") (Str.ofString "Slope.__init__") (defArgs s_Slope_init) (defBody s_Slope_init) (defScope s_Slope_init) .none (.none) (.none) (.str (Str.ofString "solidpicture.triangles") 429) (none) (.ref 208) (.none)), #[]⟩) ::
  (nat_lit 215, { cls := .type "code", data := Data.fields #[.str (Str.ofString "at") 505, .str (Str.ofString "Slope.at") 506, .str (Str.ofString "/claim/cut.py") 507, .int 146 0, .int 3 0, .int 0 0, .int 0 0, .int 3 0, .ref 210, .bool true, .int 181 0, .ref 211, .none, .ref 212, .ref 213, .ref 214, .int 511 0, .int 146 0, .str (Str.ofString "/claim/cut.py") 512] }) ::
  (nat_lit 216, ⟨.type "function", none, .func (PySem.W.fnOf (Str.ofString "at") (Str.ofString "Slope.at") (defArgs s_Slope_at) (defBody s_Slope_at) (defScope s_Slope_at) .none (.none) (.none) (.str (Str.ofString "solidpicture.triangles") 429) (none) (.ref 215) (.none)), #[]⟩) ::
  (nat_lit 218, { cls := .type "dict", data := Data.dict #[en P "__module__" 490 (.str (Str.ofString "solidpicture.triangles") 429), en P "__firstlineno__" 494 (.int 139 493), en P "__init__" 504 (.ref 209), en P "at" 513 (.ref 216), en P "__static_attributes__" 517 (.ref 217), en P "__dict__" 519 (.ref 220), en P "__weakref__" 521 (.ref 221), en P "__doc__" 522 (.none)] 4 }) ::
  (nat_lit 219, { cls := .type "type", data := Data.cls { name := Str.ofString "Slope", bases := [.type "object"], mro := [.ref 219, .type "object"], ns := 218, qualname := Str.ofString "Slope" }, slots := #[none, none, some (.str (Str.ofString "Slope") 483), some (.str (Str.ofString "Slope") 491), some (.builtin "object.__new__"), some (.bool true)] }) ::
  (nat_lit 220, { cls := .type "getset_descriptor", data := Data.fields #[.str (Str.ofString "__dict__") 518, .ref 219, .builtin "function.__dict__", .builtin "function.__dict__#set"] }) ::
  (nat_lit 221, { cls := .type "getset_descriptor", data := Data.fields #[.str (Str.ofString "__weakref__") 520, .ref 219, .builtin "ExceptionGroup.__weakref__", .none] }) ::
  (nat_lit 234, { cls := .type "code", data := Data.fields #[.str (Str.ofString "__init__") 537, .str (Str.ofString "Shade.__init__") 538, .str (Str.ofString "/claim/cut.py") 539, .int 150 0, .int 4 0, .int 0 0, .int 0 0, .int 3 0, .ref 231, .bool true, .int 181 0, .ref 232, .none, .none, .none, .ref 233, .int 540 0, .int 150 0, .str (Str.ofString "/claim/cut.py") 541] }) ::
  (nat_lit 235, ⟨.type "function", none, .func (PySem.W.fnOf (Str.ofString "__init__") (Str.ofString "Shade.__init__") (defArgs s_Shade_init) (defBody s_Shade_init) (defScope s_Shade_init) .none (.none) (.none) (.str (Str.ofString "solidpicture.triangles") 429) (none) (.ref 234) (.none)), #[]⟩) ::
  (nat_lit 237, { cls := .type "dict", data := Data.dict #[en P "__module__" 532 (.str (Str.ofString "solidpicture.triangles") 429), en P "__firstlineno__" 536 (.int 148 535), en P "__init__" 542 (.ref 235), en P "__static_attributes__" 547 (.ref 236), en P "__dict__" 549 (.ref 239), en P "__weakref__" 551 (.ref 240), en P "__doc__" 552 (.none)] 4 }) ::
  (nat_lit 238, { cls := .type "type", data := Data.cls { name := Str.ofString "Shade", bases := [.type "object"], mro := [.ref 238, .type "object"], ns := 237, qualname := Str.ofString "Shade" }, slots := #[none, none, some (.str (Str.ofString "Shade") 525), some (.str (Str.ofString "Shade") 533), some (.builtin "object.__new__"), some (.bool true)] }) ::
  (nat_lit 239, { cls := .type "getset_descriptor", data := Data.fields #[.str (Str.ofString "__dict__") 548, .ref 238, .builtin "function.__dict__", .builtin "function.__dict__#set"] }) ::
  (nat_lit 240, { cls := .type "getset_descriptor", data := Data.fields #[.str (Str.ofString "__weakref__") 550, .ref 238, .builtin "ExceptionGroup.__weakref__", .none] }) ::
  (nat_lit 248, { cls := .type "code", data := Data.fields #[.str (Str.ofString "edge_slope") 555, .str (Str.ofString "edge_slope") 556, .str (Str.ofString "/claim/cut.py") 557, .int 155 0, .int 2 0, .int 0 0, .int 0 0, .int 3 0, .ref 243, .bool true, .int 181 0, .ref 244, .none, .ref 245, .ref 246, .ref 247, .int 563 0, .int 155 0, .str (Str.ofString "/claim/cut.py") 564] }) ::
  (nat_lit 249, ⟨.type "function", none, .func (PySem.W.fnOf (Str.ofString "edge_slope") (Str.ofString "edge_slope") (defArgs s_edge_slope) (defBody s_edge_slope) (defScope s_edge_slope) .none (.none) (.none) (.str (Str.ofString "solidpicture.triangles") 429) (none) (.ref 248) (.none)), #[]⟩) ::
  (nat_lit 253, { cls := .type "code", data := Data.fields #[.str (Str.ofString "weighted") 566, .str (Str.ofString "weighted") 567, .str (Str.ofString "/claim/cut.py") 568, .int 160 0, .int 2 0, .int 0 0, .int 0 0, .int 3 0, .ref 250, .bool true, .int 181 0, .ref 251, .none, .none, .none, .ref 252, .int 569 0, .int 160 0, .str (Str.ofString "/claim/cut.py") 570] }) ::
  (nat_lit 254, ⟨.type "function", none, .func (PySem.W.fnOf (Str.ofString "weighted") (Str.ofString "weighted") (defArgs s_weighted) (defBody s_weighted) (defScope s_weighted) .none (.none) (.none) (.str (Str.ofString "solidpicture.triangles") 429) (none) (.ref 253) (.none)), #[]⟩) ::
  (nat_lit 258, { cls := .type "code", data := Data.fields #[.str (Str.ofString "shared") 572, .str (Str.ofString "shared") 573, .str (Str.ofString "/claim/cut.py") 574, .int 166 0, .int 3 0, .int 0 0, .int 0 0, .int 3 0, .ref 255, .bool true, .int 181 0, .ref 256, .none, .none, .none, .ref 257, .int 575 0, .int 166 0, .str (Str.ofString "/claim/cut.py") 576] }) ::
  (nat_lit 259, ⟨.type "function", none, .func (PySem.W.fnOf (Str.ofString "shared") (Str.ofString "shared") (defArgs s_shared) (defBody s_shared) (defScope s_shared) .none (.none) (.none) (.str (Str.ofString "solidpicture.triangles") 429) (none) (.ref 258) (.none)), #[]⟩) ::
  (nat_lit 265, { cls := .type "code", data := Data.fields #[.str (Str.ofString "least_inside") 578, .str (Str.ofString "least_inside") 579, .str (Str.ofString "/claim/cut.py") 580, .int 168 0, .int 1 0, .int 0 0, .int 0 0, .int 3 0, .ref 260, .bool true, .int 181 0, .ref 261, .none, .ref 262, .ref 263, .ref 264, .int 584 0, .int 168 0, .str (Str.ofString "/claim/cut.py") 585] }) ::
  (nat_lit 266, ⟨.type "function", none, .func (PySem.W.fnOf (Str.ofString "least_inside") (Str.ofString "least_inside") (defArgs s_least_inside) (defBody s_least_inside) (defScope s_least_inside) .none (.none) (.none) (.str (Str.ofString "solidpicture.triangles") 429) (none) (.ref 265) (.none)), #[]⟩) ::
  (nat_lit 272, { cls := .type "code", data := Data.fields #[.str (Str.ofString "row_span") 587, .str (Str.ofString "row_span") 588, .str (Str.ofString "/claim/cut.py") 589, .int 172 0, .int 3 0, .int 0 0, .int 0 0, .int 3 0, .ref 267, .bool true, .int 181 0, .ref 268, .none, .ref 269, .ref 270, .ref 271, .int 597 0, .int 172 0, .str (Str.ofString "/claim/cut.py") 598] }) ::
  (nat_lit 273, ⟨.type "function", none, .func (PySem.W.fnOf (Str.ofString "row_span") (Str.ofString "row_span") (defArgs s_row_span) (defBody s_row_span) (defScope s_row_span) .none (.none) (.none) (.str (Str.ofString "solidpicture.triangles") 429) (none) (.ref 272) (.none)), #[]⟩) ::
  (nat_lit 277, { cls := .type "code", data := Data.fields #[.str (Str.ofString "new_pixel") 600, .str (Str.ofString "new_pixel") 601, .str (Str.ofString "/claim/cut.py") 602, .int 184 0, .int 5 0, .int 0 0, .int 0 0, .int 3 0, .ref 274, .bool true, .int 181 0, .ref 275, .none, .none, .none, .ref 276, .int 603 0, .int 184 0, .str (Str.ofString "/claim/cut.py") 604] }) ::
  (nat_lit 278, ⟨.type "function", none, .func (PySem.W.fnOf (Str.ofString "new_pixel") (Str.ofString "new_pixel") (defArgs s_new_pixel) (defBody s_new_pixel) (defScope s_new_pixel) .none (.none) (.none) (.str (Str.ofString "solidpicture.triangles") 429) (none) (.ref 277) (.none)), #[]⟩) ::
  (nat_lit 284, { cls := .type "code", data := Data.fields #[.str (Str.ofString "draw_row") 606, .str (Str.ofString "draw_row") 607, .str (Str.ofString "/claim/cut.py") 608, .int 194 0, .int 5 0, .int 0 0, .int 0 0, .int 3 0, .ref 279, .bool true, .int 181 0, .ref 280, .none, .ref 281, .ref 282, .ref 283, .int 617 0, .int 194 0, .str (Str.ofString "/claim/cut.py") 618] }) ::
  (nat_lit 285, ⟨.type "function", none, .func (PySem.W.fnOf (Str.ofString "draw_row") (Str.ofString "draw_row") (defArgs s_draw_row) (defBody s_draw_row) (defScope s_draw_row) .none (.none) (.none) (.str (Str.ofString "solidpicture.triangles") 429) (none) (.ref 284) (.none)), #[]⟩) ::
  (nat_lit 289, { cls := .type "code", data := Data.fields #[.str (Str.ofString "fill_triangle") 620, .str (Str.ofString "fill_triangle") 621, .str (Str.ofString "/claim/cut.py") 622, .int 203 0, .int 3 0, .int 0 0, .int 0 0, .int 3 0, .ref 286, .bool true, .int 181 0, .ref 287, .none, .none, .none, .ref 288, .int 623 0, .int 203 0, .str (Str.ofString "/claim/cut.py") 624] }) ::
  (nat_lit 290, ⟨.type "function", none, .func (PySem.W.fnOf (Str.ofString "fill_triangle") (Str.ofString "fill_triangle") (defArgs s_fill_triangle) (defBody s_fill_triangle) (defScope s_fill_triangle) .none (.none) (.none) (.str (Str.ofString "solidpicture.triangles") 429) (none) (.ref 289) (.none)), #[]⟩) ::
  (nat_lit 296, { cls := .type "code", data := Data.fields #[.str (Str.ofString "draw_triangle") 626, .str (Str.ofString "draw_triangle") 627, .str (Str.ofString "/claim/cut.py") 628, .int 215 0, .int 2 0, .int 0 0, .int 0 0, .int 3 0, .ref 291, .bool true, .int 181 0, .ref 292, .none, .ref 293, .ref 294, .ref 295, .int 632 0, .int 215 0, .str (Str.ofString "/claim/cut.py") 633] }) ::
  (nat_lit 297, ⟨.type "function", none, .func (PySem.W.fnOf (Str.ofString "draw_triangle") (Str.ofString "draw_triangle") (defArgs s_draw_triangle) (defBody s_draw_triangle) (defScope s_draw_triangle) .none (.none) (.none) (.str (Str.ofString "solidpicture.triangles") 429) (none) (.ref 296) (.none)), #[]⟩) ::
  (nat_lit 303, { cls := .type "code", data := Data.fields #[.str (Str.ofString "draw") 637, .str (Str.ofString "draw") 638, .str (Str.ofString "/claim/cut.py") 639, .int 222 0, .int 12 0, .int 0 0, .int 0 0, .int 3 0, .ref 298, .bool true, .int 181 0, .ref 299, .none, .ref 300, .ref 301, .ref 302, .int 656 0, .int 222 0, .str (Str.ofString "/claim/cut.py") 657] }) ::
  (nat_lit 304, ⟨.type "function", none, .func (PySem.W.fnOf (Str.ofString "draw") (Str.ofString "draw") (defArgs s_draw) (defBody s_draw) (defScope s_draw) .none (.none) (.none) (.str (Str.ofString "solidpicture.drawing") 635) (none) (.ref 303) (.none)), #[]⟩) :: []
noncomputable def vTop : Program := { PySem.Challenge.pw_solidpicture_s02_draw with main := { PySem.Challenge.pw_solidpicture_s02_draw.main with body := [s_draw] } }
abbrev aTop : List Addr := nat_lit 2 :: nat_lit 3 :: nat_lit 15 :: nat_lit 21 :: nat_lit 22 :: nat_lit 28 :: nat_lit 29 :: nat_lit 35 :: nat_lit 36 :: nat_lit 42 :: nat_lit 43 :: nat_lit 49 :: nat_lit 50 :: nat_lit 56 :: nat_lit 57 :: nat_lit 63 :: nat_lit 64 :: nat_lit 70 :: nat_lit 71 :: nat_lit 77 :: nat_lit 78 :: nat_lit 82 :: nat_lit 83 :: nat_lit 87 :: nat_lit 88 :: nat_lit 92 :: nat_lit 93 :: nat_lit 97 :: nat_lit 98 :: nat_lit 104 :: nat_lit 105 :: nat_lit 109 :: nat_lit 110 :: nat_lit 116 :: nat_lit 117 :: nat_lit 123 :: nat_lit 124 :: nat_lit 130 :: nat_lit 131 :: nat_lit 135 :: nat_lit 136 :: nat_lit 142 :: nat_lit 143 :: nat_lit 149 :: nat_lit 150 :: nat_lit 156 :: nat_lit 157 :: nat_lit 163 :: nat_lit 164 :: nat_lit 168 :: nat_lit 169 :: nat_lit 173 :: nat_lit 174 :: nat_lit 187 :: nat_lit 188 :: nat_lit 190 :: nat_lit 191 :: nat_lit 192 :: nat_lit 193 :: nat_lit 208 :: nat_lit 209 :: nat_lit 215 :: nat_lit 216 :: nat_lit 218 :: nat_lit 219 :: nat_lit 220 :: nat_lit 221 :: nat_lit 234 :: nat_lit 235 :: nat_lit 237 :: nat_lit 238 :: nat_lit 239 :: nat_lit 240 :: nat_lit 248 :: nat_lit 249 :: nat_lit 253 :: nat_lit 254 :: nat_lit 258 :: nat_lit 259 :: nat_lit 265 :: nat_lit 266 :: nat_lit 272 :: nat_lit 273 :: nat_lit 277 :: nat_lit 278 :: nat_lit 284 :: nat_lit 285 :: nat_lit 289 :: nat_lit 290 :: nat_lit 296 :: nat_lit 297 :: nat_lit 303 :: nat_lit 304 :: []
abbrev lTop : List Str := Str.ofString "LONGEST_SIDE" :: Str.ofString "MOST_CORNERS" :: Str.ofString "MOST_FACES" :: Str.ofString "HIGHEST_MODE" :: Str.ofString "BEYOND" :: Str.ofString "FARTHEST_DEPTH" :: Str.ofString "HIGHEST_COLOR" :: Str.ofString "CORNER_NUMBERS" :: Str.ofString "COLOR_PLACES" :: Str.ofString "is_picture_size" :: Str.ofString "are_counts" :: Str.ofString "is_mode" :: Str.ofString "are_plain_numbers" :: Str.ofString "are_colors" :: Str.ofString "are_corners" :: Str.ofString "is_solid" :: Str.ofString "faces_refusal" :: Str.ofString "draw_refusal" :: Str.ofString "CUT_W" :: Str.ofString "FARTHEST_PLACE" :: Str.ofString "MIDDLE_DEPTH" :: Str.ofString "ONE_SHARE" :: Str.ofString "times" :: Str.ofString "moved_corner" :: Str.ofString "moved_corners" :: Str.ofString "moved_faces" :: Str.ofString "is_in_front" :: Str.ofString "crossing" :: Str.ofString "cut_face" :: Str.ofString "put_corner" :: Str.ofString "is_near" :: Str.ofString "face_triangles" :: Str.ofString "turn" :: Str.ofString "PATTERN_SIDE" :: Str.ofString "product" :: Str.ofString "split_pixel" :: Str.ofString "joined_pixel" :: Str.ofString "patterned" :: Str.ofString "mixed" :: Str.ofString "PIXEL" :: Str.ofString "MIDDLE" :: Str.ofString "Canvas" :: Str.ofString "Slope" :: Str.ofString "Shade" :: Str.ofString "edge_slope" :: Str.ofString "weighted" :: Str.ofString "shared" :: Str.ofString "least_inside" :: Str.ofString "row_span" :: Str.ofString "new_pixel" :: Str.ofString "draw_row" :: Str.ofString "fill_triangle" :: Str.ofString "draw_triangle" :: []
theorem kTop_at : ∀ P, aTop = (kTop P).map (·.1) := fun _ => by kernel_rfl
theorem left_top : LeftO PySem.Challenge.pw_solidpicture_s02_draw vTop lTop (fun s => xlAt vTop [] s && recOk [] s) (Hook.obs (kHook kTop aTop kTop_at)) (Hook.val (kHook kTop aTop kTop_at)) 3902 := fun w => by kernel_rfl
end Dw


end
section
set_option Elab.async false
set_option linter.all false
set_option maxRecDepth 100000
set_option maxHeartbeats 8000000
namespace Dw
open PySem PySem.Spec PyProof.Rows L2 L3
open PySem.W (Codec)
theorem all_mk {P : Program} {w : World} {K : PySem.W.Frag} {h : Heap} {mg : Str → Option Value} {fa : Addr} (X : K.In h) (G : h.Ns mainGlobals mg) (hfa : mg "draw" = some (.ref fa))
    {f_product : Addr} {od_product an_product : Option Addr} {sl_product : Array (Option Value)} {oc_product kV_product dc_product pm_product cd_product ct_product : Value}
    {f_split_pixel : Addr} {od_split_pixel an_split_pixel : Option Addr} {sl_split_pixel : Array (Option Value)} {oc_split_pixel kV_split_pixel dc_split_pixel pm_split_pixel cd_split_pixel ct_split_pixel : Value}
    {f_joined_pixel : Addr} {od_joined_pixel an_joined_pixel : Option Addr} {sl_joined_pixel : Array (Option Value)} {oc_joined_pixel kV_joined_pixel dc_joined_pixel pm_joined_pixel cd_joined_pixel ct_joined_pixel : Value}
    {f_patterned : Addr} {od_patterned an_patterned : Option Addr} {sl_patterned : Array (Option Value)} {oc_patterned kV_patterned dc_patterned pm_patterned cd_patterned ct_patterned : Value}
    {f_mixed : Addr} {od_mixed an_mixed : Option Addr} {sl_mixed : Array (Option Value)} {oc_mixed kV_mixed dc_mixed pm_mixed cd_mixed ct_mixed : Value}
    {f_Slope_init : Addr} {od_Slope_init an_Slope_init : Option Addr} {sl_Slope_init : Array (Option Value)} {oc_Slope_init kV_Slope_init dc_Slope_init pm_Slope_init cd_Slope_init ct_Slope_init : Value}
    {f_Slope_at : Addr} {od_Slope_at an_Slope_at : Option Addr} {sl_Slope_at : Array (Option Value)} {oc_Slope_at kV_Slope_at dc_Slope_at pm_Slope_at cd_Slope_at ct_Slope_at : Value}
    {f_edge_slope : Addr} {od_edge_slope an_edge_slope : Option Addr} {sl_edge_slope : Array (Option Value)} {oc_edge_slope kV_edge_slope dc_edge_slope pm_edge_slope cd_edge_slope ct_edge_slope : Value}
    {f_weighted : Addr} {od_weighted an_weighted : Option Addr} {sl_weighted : Array (Option Value)} {oc_weighted kV_weighted dc_weighted pm_weighted cd_weighted ct_weighted : Value}
    {f_shared : Addr} {od_shared an_shared : Option Addr} {sl_shared : Array (Option Value)} {oc_shared kV_shared dc_shared pm_shared cd_shared ct_shared : Value}
    {f_least_inside : Addr} {od_least_inside an_least_inside : Option Addr} {sl_least_inside : Array (Option Value)} {oc_least_inside kV_least_inside dc_least_inside pm_least_inside cd_least_inside ct_least_inside : Value}
    {f_Shade_init : Addr} {od_Shade_init an_Shade_init : Option Addr} {sl_Shade_init : Array (Option Value)} {oc_Shade_init kV_Shade_init dc_Shade_init pm_Shade_init cd_Shade_init ct_Shade_init : Value}
    {f_row_span : Addr} {od_row_span an_row_span : Option Addr} {sl_row_span : Array (Option Value)} {oc_row_span kV_row_span dc_row_span pm_row_span cd_row_span ct_row_span : Value}
    {f_new_pixel : Addr} {od_new_pixel an_new_pixel : Option Addr} {sl_new_pixel : Array (Option Value)} {oc_new_pixel kV_new_pixel dc_new_pixel pm_new_pixel cd_new_pixel ct_new_pixel : Value}
    {f_draw_row : Addr} {od_draw_row an_draw_row : Option Addr} {sl_draw_row : Array (Option Value)} {oc_draw_row kV_draw_row dc_draw_row pm_draw_row cd_draw_row ct_draw_row : Value}
    {f_turn : Addr} {od_turn an_turn : Option Addr} {sl_turn : Array (Option Value)} {oc_turn kV_turn dc_turn pm_turn cd_turn ct_turn : Value}
    {f_fill_triangle : Addr} {od_fill_triangle an_fill_triangle : Option Addr} {sl_fill_triangle : Array (Option Value)} {oc_fill_triangle kV_fill_triangle dc_fill_triangle pm_fill_triangle cd_fill_triangle ct_fill_triangle : Value}
    {f_draw_triangle : Addr} {od_draw_triangle an_draw_triangle : Option Addr} {sl_draw_triangle : Array (Option Value)} {oc_draw_triangle kV_draw_triangle dc_draw_triangle pm_draw_triangle cd_draw_triangle ct_draw_triangle : Value}
    {f_times : Addr} {od_times an_times : Option Addr} {sl_times : Array (Option Value)} {oc_times kV_times dc_times pm_times cd_times ct_times : Value}
    {f_moved_corner : Addr} {od_moved_corner an_moved_corner : Option Addr} {sl_moved_corner : Array (Option Value)} {oc_moved_corner kV_moved_corner dc_moved_corner pm_moved_corner cd_moved_corner ct_moved_corner : Value}
    {f_moved_corners : Addr} {od_moved_corners an_moved_corners : Option Addr} {sl_moved_corners : Array (Option Value)} {oc_moved_corners kV_moved_corners dc_moved_corners pm_moved_corners cd_moved_corners ct_moved_corners : Value}
    {f_is_in_front : Addr} {od_is_in_front an_is_in_front : Option Addr} {sl_is_in_front : Array (Option Value)} {oc_is_in_front kV_is_in_front dc_is_in_front pm_is_in_front cd_is_in_front ct_is_in_front : Value}
    {f_crossing : Addr} {od_crossing an_crossing : Option Addr} {sl_crossing : Array (Option Value)} {oc_crossing kV_crossing dc_crossing pm_crossing cd_crossing ct_crossing : Value}
    {f_cut_face : Addr} {od_cut_face an_cut_face : Option Addr} {sl_cut_face : Array (Option Value)} {oc_cut_face kV_cut_face dc_cut_face pm_cut_face cd_cut_face ct_cut_face : Value}
    {f_put_corner : Addr} {od_put_corner an_put_corner : Option Addr} {sl_put_corner : Array (Option Value)} {oc_put_corner kV_put_corner dc_put_corner pm_put_corner cd_put_corner ct_put_corner : Value}
    {f_is_near : Addr} {od_is_near an_is_near : Option Addr} {sl_is_near : Array (Option Value)} {oc_is_near kV_is_near dc_is_near pm_is_near cd_is_near ct_is_near : Value}
    {f_face_triangles : Addr} {od_face_triangles an_face_triangles : Option Addr} {sl_face_triangles : Array (Option Value)} {oc_face_triangles kV_face_triangles dc_face_triangles pm_face_triangles cd_face_triangles ct_face_triangles : Value}
    {f_is_picture_size : Addr} {od_is_picture_size an_is_picture_size : Option Addr} {sl_is_picture_size : Array (Option Value)} {oc_is_picture_size kV_is_picture_size dc_is_picture_size pm_is_picture_size cd_is_picture_size ct_is_picture_size : Value}
    {f_are_counts : Addr} {od_are_counts an_are_counts : Option Addr} {sl_are_counts : Array (Option Value)} {oc_are_counts kV_are_counts dc_are_counts pm_are_counts cd_are_counts ct_are_counts : Value}
    {f_is_mode : Addr} {od_is_mode an_is_mode : Option Addr} {sl_is_mode : Array (Option Value)} {oc_is_mode kV_is_mode dc_is_mode pm_is_mode cd_is_mode ct_is_mode : Value}
    {f_are_plain_numbers : Addr} {od_are_plain_numbers an_are_plain_numbers : Option Addr} {sl_are_plain_numbers : Array (Option Value)} {oc_are_plain_numbers kV_are_plain_numbers dc_are_plain_numbers pm_are_plain_numbers cd_are_plain_numbers ct_are_plain_numbers : Value}
    {f_are_colors : Addr} {od_are_colors an_are_colors : Option Addr} {sl_are_colors : Array (Option Value)} {oc_are_colors kV_are_colors dc_are_colors pm_are_colors cd_are_colors ct_are_colors : Value}
    {f_are_corners : Addr} {od_are_corners an_are_corners : Option Addr} {sl_are_corners : Array (Option Value)} {oc_are_corners kV_are_corners dc_are_corners pm_are_corners cd_are_corners ct_are_corners : Value}
    {f_is_solid : Addr} {od_is_solid an_is_solid : Option Addr} {sl_is_solid : Array (Option Value)} {oc_is_solid kV_is_solid dc_is_solid pm_is_solid cd_is_solid ct_is_solid : Value}
    {f_moved_faces : Addr} {od_moved_faces an_moved_faces : Option Addr} {sl_moved_faces : Array (Option Value)} {oc_moved_faces kV_moved_faces dc_moved_faces pm_moved_faces cd_moved_faces ct_moved_faces : Value}
    {f_faces_refusal : Addr} {od_faces_refusal an_faces_refusal : Option Addr} {sl_faces_refusal : Array (Option Value)} {oc_faces_refusal kV_faces_refusal dc_faces_refusal pm_faces_refusal cd_faces_refusal ct_faces_refusal : Value}
    {f_draw_refusal : Addr} {od_draw_refusal an_draw_refusal : Option Addr} {sl_draw_refusal : Array (Option Value)} {oc_draw_refusal kV_draw_refusal dc_draw_refusal pm_draw_refusal cd_draw_refusal ct_draw_refusal : Value}
    {f_Canvas_init : Addr} {od_Canvas_init an_Canvas_init : Option Addr} {sl_Canvas_init : Array (Option Value)} {oc_Canvas_init kV_Canvas_init dc_Canvas_init pm_Canvas_init cd_Canvas_init ct_Canvas_init : Value}
    {f_draw : Addr} {od_draw an_draw : Option Addr} {sl_draw : Array (Option Value)} {oc_draw kV_draw dc_draw pm_draw cd_draw ct_draw : Value}
    {CS : Addr}
    {CH : Addr}
    {CC : Addr}
    {tk_LONGEST_SIDE : Tok}
    {tk_MOST_CORNERS : Tok}
    {tk_MOST_FACES : Tok}
    {tk_HIGHEST_MODE : Tok}
    {tk_BEYOND : Tok}
    {tk_FARTHEST_DEPTH : Tok}
    {tk_HIGHEST_COLOR : Tok}
    {tk_CORNER_NUMBERS : Tok}
    {a_COLOR_PLACES : Addr} {dt_COLOR_PLACES : Option Addr} {n_COLOR_PLACES : Nat} {slt_COLOR_PLACES : Array (Option Value)} {tk0_COLOR_PLACES : Tok} {tk1_COLOR_PLACES : Tok} {tk2_COLOR_PLACES : Tok} {tk3_COLOR_PLACES : Tok}
    {tk_CUT_W : Tok}
    {tk_FARTHEST_PLACE : Tok}
    {tk_MIDDLE_DEPTH : Tok}
    {tk_ONE_SHARE : Tok}
    {tk_PATTERN_SIDE : Tok}
    {tk_PIXEL : Tok}
    {tk_MIDDLE : Tok}
    (aC_Slope : PySem.W.nsIn K mainGlobals "Slope" = some (some (.ref CS)))
    (aC_Shade : PySem.W.nsIn K mainGlobals "Shade" = some (some (.ref CH)))
    (aC_Canvas : PySem.W.nsIn K mainGlobals "Canvas" = some (some (.ref CC)))
    (a_product : PySem.W.nsIn K mainGlobals "product" = some (some (.ref f_product)))
    (l_product : K.lookup f_product = some ⟨oc_product, od_product, .func (PySem.W.fnOf "product" "product" (defArgs s_product) (defBody s_product) (defScope s_product) .none kV_product dc_product pm_product an_product cd_product ct_product), sl_product⟩) (cc_product : PySem.W.codeIn K cd_product "product" = true) (k_product : PySem.W.keepIn K (.ref f_product) = true)
    (a_split_pixel : PySem.W.nsIn K mainGlobals "split_pixel" = some (some (.ref f_split_pixel)))
    (l_split_pixel : K.lookup f_split_pixel = some ⟨oc_split_pixel, od_split_pixel, .func (PySem.W.fnOf "split_pixel" "split_pixel" (defArgs s_split_pixel) (defBody s_split_pixel) (defScope s_split_pixel) .none kV_split_pixel dc_split_pixel pm_split_pixel an_split_pixel cd_split_pixel ct_split_pixel), sl_split_pixel⟩) (cc_split_pixel : PySem.W.codeIn K cd_split_pixel "split_pixel" = true) (k_split_pixel : PySem.W.keepIn K (.ref f_split_pixel) = true)
    (a_joined_pixel : PySem.W.nsIn K mainGlobals "joined_pixel" = some (some (.ref f_joined_pixel)))
    (l_joined_pixel : K.lookup f_joined_pixel = some ⟨oc_joined_pixel, od_joined_pixel, .func (PySem.W.fnOf "joined_pixel" "joined_pixel" (defArgs s_joined_pixel) (defBody s_joined_pixel) (defScope s_joined_pixel) .none kV_joined_pixel dc_joined_pixel pm_joined_pixel an_joined_pixel cd_joined_pixel ct_joined_pixel), sl_joined_pixel⟩) (cc_joined_pixel : PySem.W.codeIn K cd_joined_pixel "joined_pixel" = true) (k_joined_pixel : PySem.W.keepIn K (.ref f_joined_pixel) = true)
    (a_patterned : PySem.W.nsIn K mainGlobals "patterned" = some (some (.ref f_patterned)))
    (l_patterned : K.lookup f_patterned = some ⟨oc_patterned, od_patterned, .func (PySem.W.fnOf "patterned" "patterned" (defArgs s_patterned) (defBody s_patterned) (defScope s_patterned) .none kV_patterned dc_patterned pm_patterned an_patterned cd_patterned ct_patterned), sl_patterned⟩) (cc_patterned : PySem.W.codeIn K cd_patterned "patterned" = true) (k_patterned : PySem.W.keepIn K (.ref f_patterned) = true)
    (a_mixed : PySem.W.nsIn K mainGlobals "mixed" = some (some (.ref f_mixed)))
    (l_mixed : K.lookup f_mixed = some ⟨oc_mixed, od_mixed, .func (PySem.W.fnOf "mixed" "mixed" (defArgs s_mixed) (defBody s_mixed) (defScope s_mixed) .none kV_mixed dc_mixed pm_mixed an_mixed cd_mixed ct_mixed), sl_mixed⟩) (cc_mixed : PySem.W.codeIn K cd_mixed "mixed" = true) (k_mixed : PySem.W.keepIn K (.ref f_mixed) = true)
    (a_Slope_init : PySem.W.findIn K (.ref CS) "__init__" = some (some (.ref f_Slope_init))) (i_Slope_init : PySem.W.isFn K (.ref f_Slope_init) = true)
    (l_Slope_init : K.lookup f_Slope_init = some ⟨oc_Slope_init, od_Slope_init, .func (PySem.W.fnOf "__init__" "Slope.__init__" (defArgs s_Slope_init) (defBody s_Slope_init) (defScope s_Slope_init) .none kV_Slope_init dc_Slope_init pm_Slope_init an_Slope_init cd_Slope_init ct_Slope_init), sl_Slope_init⟩) (cc_Slope_init : PySem.W.codeIn K cd_Slope_init "Slope.__init__" = true) (k_Slope_init : PySem.W.keepIn K (.ref f_Slope_init) = true)
    (a_Slope_at : PySem.W.findIn K (.ref CS) "at" = some (some (.ref f_Slope_at))) (i_Slope_at : PySem.W.isFn K (.ref f_Slope_at) = true)
    (l_Slope_at : K.lookup f_Slope_at = some ⟨oc_Slope_at, od_Slope_at, .func (PySem.W.fnOf "at" "Slope.at" (defArgs s_Slope_at) (defBody s_Slope_at) (defScope s_Slope_at) .none kV_Slope_at dc_Slope_at pm_Slope_at an_Slope_at cd_Slope_at ct_Slope_at), sl_Slope_at⟩) (cc_Slope_at : PySem.W.codeIn K cd_Slope_at "Slope.at" = true) (k_Slope_at : PySem.W.keepIn K (.ref f_Slope_at) = true)
    (a_edge_slope : PySem.W.nsIn K mainGlobals "edge_slope" = some (some (.ref f_edge_slope)))
    (l_edge_slope : K.lookup f_edge_slope = some ⟨oc_edge_slope, od_edge_slope, .func (PySem.W.fnOf "edge_slope" "edge_slope" (defArgs s_edge_slope) (defBody s_edge_slope) (defScope s_edge_slope) .none kV_edge_slope dc_edge_slope pm_edge_slope an_edge_slope cd_edge_slope ct_edge_slope), sl_edge_slope⟩) (cc_edge_slope : PySem.W.codeIn K cd_edge_slope "edge_slope" = true) (k_edge_slope : PySem.W.keepIn K (.ref f_edge_slope) = true)
    (a_weighted : PySem.W.nsIn K mainGlobals "weighted" = some (some (.ref f_weighted)))
    (l_weighted : K.lookup f_weighted = some ⟨oc_weighted, od_weighted, .func (PySem.W.fnOf "weighted" "weighted" (defArgs s_weighted) (defBody s_weighted) (defScope s_weighted) .none kV_weighted dc_weighted pm_weighted an_weighted cd_weighted ct_weighted), sl_weighted⟩) (cc_weighted : PySem.W.codeIn K cd_weighted "weighted" = true) (k_weighted : PySem.W.keepIn K (.ref f_weighted) = true)
    (a_shared : PySem.W.nsIn K mainGlobals "shared" = some (some (.ref f_shared)))
    (l_shared : K.lookup f_shared = some ⟨oc_shared, od_shared, .func (PySem.W.fnOf "shared" "shared" (defArgs s_shared) (defBody s_shared) (defScope s_shared) .none kV_shared dc_shared pm_shared an_shared cd_shared ct_shared), sl_shared⟩) (cc_shared : PySem.W.codeIn K cd_shared "shared" = true) (k_shared : PySem.W.keepIn K (.ref f_shared) = true)
    (a_least_inside : PySem.W.nsIn K mainGlobals "least_inside" = some (some (.ref f_least_inside)))
    (l_least_inside : K.lookup f_least_inside = some ⟨oc_least_inside, od_least_inside, .func (PySem.W.fnOf "least_inside" "least_inside" (defArgs s_least_inside) (defBody s_least_inside) (defScope s_least_inside) .none kV_least_inside dc_least_inside pm_least_inside an_least_inside cd_least_inside ct_least_inside), sl_least_inside⟩) (cc_least_inside : PySem.W.codeIn K cd_least_inside "least_inside" = true) (k_least_inside : PySem.W.keepIn K (.ref f_least_inside) = true)
    (a_Shade_init : PySem.W.findIn K (.ref CH) "__init__" = some (some (.ref f_Shade_init))) (i_Shade_init : PySem.W.isFn K (.ref f_Shade_init) = true)
    (l_Shade_init : K.lookup f_Shade_init = some ⟨oc_Shade_init, od_Shade_init, .func (PySem.W.fnOf "__init__" "Shade.__init__" (defArgs s_Shade_init) (defBody s_Shade_init) (defScope s_Shade_init) .none kV_Shade_init dc_Shade_init pm_Shade_init an_Shade_init cd_Shade_init ct_Shade_init), sl_Shade_init⟩) (cc_Shade_init : PySem.W.codeIn K cd_Shade_init "Shade.__init__" = true) (k_Shade_init : PySem.W.keepIn K (.ref f_Shade_init) = true)
    (a_row_span : PySem.W.nsIn K mainGlobals "row_span" = some (some (.ref f_row_span)))
    (l_row_span : K.lookup f_row_span = some ⟨oc_row_span, od_row_span, .func (PySem.W.fnOf "row_span" "row_span" (defArgs s_row_span) (defBody s_row_span) (defScope s_row_span) .none kV_row_span dc_row_span pm_row_span an_row_span cd_row_span ct_row_span), sl_row_span⟩) (cc_row_span : PySem.W.codeIn K cd_row_span "row_span" = true) (k_row_span : PySem.W.keepIn K (.ref f_row_span) = true)
    (a_new_pixel : PySem.W.nsIn K mainGlobals "new_pixel" = some (some (.ref f_new_pixel)))
    (l_new_pixel : K.lookup f_new_pixel = some ⟨oc_new_pixel, od_new_pixel, .func (PySem.W.fnOf "new_pixel" "new_pixel" (defArgs s_new_pixel) (defBody s_new_pixel) (defScope s_new_pixel) .none kV_new_pixel dc_new_pixel pm_new_pixel an_new_pixel cd_new_pixel ct_new_pixel), sl_new_pixel⟩) (cc_new_pixel : PySem.W.codeIn K cd_new_pixel "new_pixel" = true) (k_new_pixel : PySem.W.keepIn K (.ref f_new_pixel) = true)
    (a_draw_row : PySem.W.nsIn K mainGlobals "draw_row" = some (some (.ref f_draw_row)))
    (l_draw_row : K.lookup f_draw_row = some ⟨oc_draw_row, od_draw_row, .func (PySem.W.fnOf "draw_row" "draw_row" (defArgs s_draw_row) (defBody s_draw_row) (defScope s_draw_row) .none kV_draw_row dc_draw_row pm_draw_row an_draw_row cd_draw_row ct_draw_row), sl_draw_row⟩) (cc_draw_row : PySem.W.codeIn K cd_draw_row "draw_row" = true) (k_draw_row : PySem.W.keepIn K (.ref f_draw_row) = true)
    (a_turn : PySem.W.nsIn K mainGlobals "turn" = some (some (.ref f_turn)))
    (l_turn : K.lookup f_turn = some ⟨oc_turn, od_turn, .func (PySem.W.fnOf "turn" "turn" (defArgs s_turn) (defBody s_turn) (defScope s_turn) .none kV_turn dc_turn pm_turn an_turn cd_turn ct_turn), sl_turn⟩) (cc_turn : PySem.W.codeIn K cd_turn "turn" = true) (k_turn : PySem.W.keepIn K (.ref f_turn) = true)
    (a_fill_triangle : PySem.W.nsIn K mainGlobals "fill_triangle" = some (some (.ref f_fill_triangle)))
    (l_fill_triangle : K.lookup f_fill_triangle = some ⟨oc_fill_triangle, od_fill_triangle, .func (PySem.W.fnOf "fill_triangle" "fill_triangle" (defArgs s_fill_triangle) (defBody s_fill_triangle) (defScope s_fill_triangle) .none kV_fill_triangle dc_fill_triangle pm_fill_triangle an_fill_triangle cd_fill_triangle ct_fill_triangle), sl_fill_triangle⟩) (cc_fill_triangle : PySem.W.codeIn K cd_fill_triangle "fill_triangle" = true) (k_fill_triangle : PySem.W.keepIn K (.ref f_fill_triangle) = true)
    (a_draw_triangle : PySem.W.nsIn K mainGlobals "draw_triangle" = some (some (.ref f_draw_triangle)))
    (l_draw_triangle : K.lookup f_draw_triangle = some ⟨oc_draw_triangle, od_draw_triangle, .func (PySem.W.fnOf "draw_triangle" "draw_triangle" (defArgs s_draw_triangle) (defBody s_draw_triangle) (defScope s_draw_triangle) .none kV_draw_triangle dc_draw_triangle pm_draw_triangle an_draw_triangle cd_draw_triangle ct_draw_triangle), sl_draw_triangle⟩) (cc_draw_triangle : PySem.W.codeIn K cd_draw_triangle "draw_triangle" = true) (k_draw_triangle : PySem.W.keepIn K (.ref f_draw_triangle) = true)
    (a_times : PySem.W.nsIn K mainGlobals "times" = some (some (.ref f_times)))
    (l_times : K.lookup f_times = some ⟨oc_times, od_times, .func (PySem.W.fnOf "times" "times" (defArgs s_times) (defBody s_times) (defScope s_times) .none kV_times dc_times pm_times an_times cd_times ct_times), sl_times⟩) (cc_times : PySem.W.codeIn K cd_times "times" = true) (k_times : PySem.W.keepIn K (.ref f_times) = true)
    (a_moved_corner : PySem.W.nsIn K mainGlobals "moved_corner" = some (some (.ref f_moved_corner)))
    (l_moved_corner : K.lookup f_moved_corner = some ⟨oc_moved_corner, od_moved_corner, .func (PySem.W.fnOf "moved_corner" "moved_corner" (defArgs s_moved_corner) (defBody s_moved_corner) (defScope s_moved_corner) .none kV_moved_corner dc_moved_corner pm_moved_corner an_moved_corner cd_moved_corner ct_moved_corner), sl_moved_corner⟩) (cc_moved_corner : PySem.W.codeIn K cd_moved_corner "moved_corner" = true) (k_moved_corner : PySem.W.keepIn K (.ref f_moved_corner) = true)
    (a_moved_corners : PySem.W.nsIn K mainGlobals "moved_corners" = some (some (.ref f_moved_corners)))
    (l_moved_corners : K.lookup f_moved_corners = some ⟨oc_moved_corners, od_moved_corners, .func (PySem.W.fnOf "moved_corners" "moved_corners" (defArgs s_moved_corners) (defBody s_moved_corners) (defScope s_moved_corners) .none kV_moved_corners dc_moved_corners pm_moved_corners an_moved_corners cd_moved_corners ct_moved_corners), sl_moved_corners⟩) (cc_moved_corners : PySem.W.codeIn K cd_moved_corners "moved_corners" = true) (k_moved_corners : PySem.W.keepIn K (.ref f_moved_corners) = true)
    (a_is_in_front : PySem.W.nsIn K mainGlobals "is_in_front" = some (some (.ref f_is_in_front)))
    (l_is_in_front : K.lookup f_is_in_front = some ⟨oc_is_in_front, od_is_in_front, .func (PySem.W.fnOf "is_in_front" "is_in_front" (defArgs s_is_in_front) (defBody s_is_in_front) (defScope s_is_in_front) .none kV_is_in_front dc_is_in_front pm_is_in_front an_is_in_front cd_is_in_front ct_is_in_front), sl_is_in_front⟩) (cc_is_in_front : PySem.W.codeIn K cd_is_in_front "is_in_front" = true) (k_is_in_front : PySem.W.keepIn K (.ref f_is_in_front) = true)
    (a_crossing : PySem.W.nsIn K mainGlobals "crossing" = some (some (.ref f_crossing)))
    (l_crossing : K.lookup f_crossing = some ⟨oc_crossing, od_crossing, .func (PySem.W.fnOf "crossing" "crossing" (defArgs s_crossing) (defBody s_crossing) (defScope s_crossing) .none kV_crossing dc_crossing pm_crossing an_crossing cd_crossing ct_crossing), sl_crossing⟩) (cc_crossing : PySem.W.codeIn K cd_crossing "crossing" = true) (k_crossing : PySem.W.keepIn K (.ref f_crossing) = true)
    (a_cut_face : PySem.W.nsIn K mainGlobals "cut_face" = some (some (.ref f_cut_face)))
    (l_cut_face : K.lookup f_cut_face = some ⟨oc_cut_face, od_cut_face, .func (PySem.W.fnOf "cut_face" "cut_face" (defArgs s_cut_face) (defBody s_cut_face) (defScope s_cut_face) .none kV_cut_face dc_cut_face pm_cut_face an_cut_face cd_cut_face ct_cut_face), sl_cut_face⟩) (cc_cut_face : PySem.W.codeIn K cd_cut_face "cut_face" = true) (k_cut_face : PySem.W.keepIn K (.ref f_cut_face) = true)
    (a_put_corner : PySem.W.nsIn K mainGlobals "put_corner" = some (some (.ref f_put_corner)))
    (l_put_corner : K.lookup f_put_corner = some ⟨oc_put_corner, od_put_corner, .func (PySem.W.fnOf "put_corner" "put_corner" (defArgs s_put_corner) (defBody s_put_corner) (defScope s_put_corner) .none kV_put_corner dc_put_corner pm_put_corner an_put_corner cd_put_corner ct_put_corner), sl_put_corner⟩) (cc_put_corner : PySem.W.codeIn K cd_put_corner "put_corner" = true) (k_put_corner : PySem.W.keepIn K (.ref f_put_corner) = true)
    (a_is_near : PySem.W.nsIn K mainGlobals "is_near" = some (some (.ref f_is_near)))
    (l_is_near : K.lookup f_is_near = some ⟨oc_is_near, od_is_near, .func (PySem.W.fnOf "is_near" "is_near" (defArgs s_is_near) (defBody s_is_near) (defScope s_is_near) .none kV_is_near dc_is_near pm_is_near an_is_near cd_is_near ct_is_near), sl_is_near⟩) (cc_is_near : PySem.W.codeIn K cd_is_near "is_near" = true) (k_is_near : PySem.W.keepIn K (.ref f_is_near) = true)
    (a_face_triangles : PySem.W.nsIn K mainGlobals "face_triangles" = some (some (.ref f_face_triangles)))
    (l_face_triangles : K.lookup f_face_triangles = some ⟨oc_face_triangles, od_face_triangles, .func (PySem.W.fnOf "face_triangles" "face_triangles" (defArgs s_face_triangles) (defBody s_face_triangles) (defScope s_face_triangles) .none kV_face_triangles dc_face_triangles pm_face_triangles an_face_triangles cd_face_triangles ct_face_triangles), sl_face_triangles⟩) (cc_face_triangles : PySem.W.codeIn K cd_face_triangles "face_triangles" = true) (k_face_triangles : PySem.W.keepIn K (.ref f_face_triangles) = true)
    (a_is_picture_size : PySem.W.nsIn K mainGlobals "is_picture_size" = some (some (.ref f_is_picture_size)))
    (l_is_picture_size : K.lookup f_is_picture_size = some ⟨oc_is_picture_size, od_is_picture_size, .func (PySem.W.fnOf "is_picture_size" "is_picture_size" (defArgs s_is_picture_size) (defBody s_is_picture_size) (defScope s_is_picture_size) .none kV_is_picture_size dc_is_picture_size pm_is_picture_size an_is_picture_size cd_is_picture_size ct_is_picture_size), sl_is_picture_size⟩) (cc_is_picture_size : PySem.W.codeIn K cd_is_picture_size "is_picture_size" = true) (k_is_picture_size : PySem.W.keepIn K (.ref f_is_picture_size) = true)
    (a_are_counts : PySem.W.nsIn K mainGlobals "are_counts" = some (some (.ref f_are_counts)))
    (l_are_counts : K.lookup f_are_counts = some ⟨oc_are_counts, od_are_counts, .func (PySem.W.fnOf "are_counts" "are_counts" (defArgs s_are_counts) (defBody s_are_counts) (defScope s_are_counts) .none kV_are_counts dc_are_counts pm_are_counts an_are_counts cd_are_counts ct_are_counts), sl_are_counts⟩) (cc_are_counts : PySem.W.codeIn K cd_are_counts "are_counts" = true) (k_are_counts : PySem.W.keepIn K (.ref f_are_counts) = true)
    (a_is_mode : PySem.W.nsIn K mainGlobals "is_mode" = some (some (.ref f_is_mode)))
    (l_is_mode : K.lookup f_is_mode = some ⟨oc_is_mode, od_is_mode, .func (PySem.W.fnOf "is_mode" "is_mode" (defArgs s_is_mode) (defBody s_is_mode) (defScope s_is_mode) .none kV_is_mode dc_is_mode pm_is_mode an_is_mode cd_is_mode ct_is_mode), sl_is_mode⟩) (cc_is_mode : PySem.W.codeIn K cd_is_mode "is_mode" = true) (k_is_mode : PySem.W.keepIn K (.ref f_is_mode) = true)
    (a_are_plain_numbers : PySem.W.nsIn K mainGlobals "are_plain_numbers" = some (some (.ref f_are_plain_numbers)))
    (l_are_plain_numbers : K.lookup f_are_plain_numbers = some ⟨oc_are_plain_numbers, od_are_plain_numbers, .func (PySem.W.fnOf "are_plain_numbers" "are_plain_numbers" (defArgs s_are_plain_numbers) (defBody s_are_plain_numbers) (defScope s_are_plain_numbers) .none kV_are_plain_numbers dc_are_plain_numbers pm_are_plain_numbers an_are_plain_numbers cd_are_plain_numbers ct_are_plain_numbers), sl_are_plain_numbers⟩) (cc_are_plain_numbers : PySem.W.codeIn K cd_are_plain_numbers "are_plain_numbers" = true) (k_are_plain_numbers : PySem.W.keepIn K (.ref f_are_plain_numbers) = true)
    (a_are_colors : PySem.W.nsIn K mainGlobals "are_colors" = some (some (.ref f_are_colors)))
    (l_are_colors : K.lookup f_are_colors = some ⟨oc_are_colors, od_are_colors, .func (PySem.W.fnOf "are_colors" "are_colors" (defArgs s_are_colors) (defBody s_are_colors) (defScope s_are_colors) .none kV_are_colors dc_are_colors pm_are_colors an_are_colors cd_are_colors ct_are_colors), sl_are_colors⟩) (cc_are_colors : PySem.W.codeIn K cd_are_colors "are_colors" = true) (k_are_colors : PySem.W.keepIn K (.ref f_are_colors) = true)
    (a_are_corners : PySem.W.nsIn K mainGlobals "are_corners" = some (some (.ref f_are_corners)))
    (l_are_corners : K.lookup f_are_corners = some ⟨oc_are_corners, od_are_corners, .func (PySem.W.fnOf "are_corners" "are_corners" (defArgs s_are_corners) (defBody s_are_corners) (defScope s_are_corners) .none kV_are_corners dc_are_corners pm_are_corners an_are_corners cd_are_corners ct_are_corners), sl_are_corners⟩) (cc_are_corners : PySem.W.codeIn K cd_are_corners "are_corners" = true) (k_are_corners : PySem.W.keepIn K (.ref f_are_corners) = true)
    (a_is_solid : PySem.W.nsIn K mainGlobals "is_solid" = some (some (.ref f_is_solid)))
    (l_is_solid : K.lookup f_is_solid = some ⟨oc_is_solid, od_is_solid, .func (PySem.W.fnOf "is_solid" "is_solid" (defArgs s_is_solid) (defBody s_is_solid) (defScope s_is_solid) .none kV_is_solid dc_is_solid pm_is_solid an_is_solid cd_is_solid ct_is_solid), sl_is_solid⟩) (cc_is_solid : PySem.W.codeIn K cd_is_solid "is_solid" = true) (k_is_solid : PySem.W.keepIn K (.ref f_is_solid) = true)
    (a_moved_faces : PySem.W.nsIn K mainGlobals "moved_faces" = some (some (.ref f_moved_faces)))
    (l_moved_faces : K.lookup f_moved_faces = some ⟨oc_moved_faces, od_moved_faces, .func (PySem.W.fnOf "moved_faces" "moved_faces" (defArgs s_moved_faces) (defBody s_moved_faces) (defScope s_moved_faces) .none kV_moved_faces dc_moved_faces pm_moved_faces an_moved_faces cd_moved_faces ct_moved_faces), sl_moved_faces⟩) (cc_moved_faces : PySem.W.codeIn K cd_moved_faces "moved_faces" = true) (k_moved_faces : PySem.W.keepIn K (.ref f_moved_faces) = true)
    (a_faces_refusal : PySem.W.nsIn K mainGlobals "faces_refusal" = some (some (.ref f_faces_refusal)))
    (l_faces_refusal : K.lookup f_faces_refusal = some ⟨oc_faces_refusal, od_faces_refusal, .func (PySem.W.fnOf "faces_refusal" "faces_refusal" (defArgs s_faces_refusal) (defBody s_faces_refusal) (defScope s_faces_refusal) .none kV_faces_refusal dc_faces_refusal pm_faces_refusal an_faces_refusal cd_faces_refusal ct_faces_refusal), sl_faces_refusal⟩) (cc_faces_refusal : PySem.W.codeIn K cd_faces_refusal "faces_refusal" = true) (k_faces_refusal : PySem.W.keepIn K (.ref f_faces_refusal) = true)
    (a_draw_refusal : PySem.W.nsIn K mainGlobals "draw_refusal" = some (some (.ref f_draw_refusal)))
    (l_draw_refusal : K.lookup f_draw_refusal = some ⟨oc_draw_refusal, od_draw_refusal, .func (PySem.W.fnOf "draw_refusal" "draw_refusal" (defArgs s_draw_refusal) (defBody s_draw_refusal) (defScope s_draw_refusal) .none kV_draw_refusal dc_draw_refusal pm_draw_refusal an_draw_refusal cd_draw_refusal ct_draw_refusal), sl_draw_refusal⟩) (cc_draw_refusal : PySem.W.codeIn K cd_draw_refusal "draw_refusal" = true) (k_draw_refusal : PySem.W.keepIn K (.ref f_draw_refusal) = true)
    (a_Canvas_init : PySem.W.findIn K (.ref CC) "__init__" = some (some (.ref f_Canvas_init))) (i_Canvas_init : PySem.W.isFn K (.ref f_Canvas_init) = true)
    (l_Canvas_init : K.lookup f_Canvas_init = some ⟨oc_Canvas_init, od_Canvas_init, .func (PySem.W.fnOf "__init__" "Canvas.__init__" (defArgs s_Canvas_init) (defBody s_Canvas_init) (defScope s_Canvas_init) .none kV_Canvas_init dc_Canvas_init pm_Canvas_init an_Canvas_init cd_Canvas_init ct_Canvas_init), sl_Canvas_init⟩) (cc_Canvas_init : PySem.W.codeIn K cd_Canvas_init "Canvas.__init__" = true) (k_Canvas_init : PySem.W.keepIn K (.ref f_Canvas_init) = true)
    (a_draw : PySem.W.nsIn K mainGlobals "draw" = some (some (.ref f_draw)))
    (l_draw : K.lookup f_draw = some ⟨oc_draw, od_draw, .func (PySem.W.fnOf "draw" "draw" (defArgs s_draw) (defBody s_draw) (defScope s_draw) .none kV_draw dc_draw pm_draw an_draw cd_draw ct_draw), sl_draw⟩) (cc_draw : PySem.W.codeIn K cd_draw "draw" = true) (k_draw : PySem.W.keepIn K (.ref f_draw) = true)
    (pg_Slope : PySem.W.plainGet K CS Str.empty = true) (hd_Slope : PySem.W.hasDictIn K CS = true) (po_Slope : PySem.W.plainOver K CS = true) (sa_Slope : PySem.W.findIn K (.ref CS) "__setattr__" = some (some (.builtin "object.__setattr__"))) (mk_Slope : PySem.W.makesIn K CS = true) (kc_Slope : PySem.W.keepIn K (.ref CS) = true)
    (n_Slope_start : PySem.W.findIn K (.ref CS) "start" = some none)
    (n_Slope_by_column : PySem.W.findIn K (.ref CS) "by_column" = some none)
    (n_Slope_by_row : PySem.W.findIn K (.ref CS) "by_row" = some none)
    (pg_Shade : PySem.W.plainGet K CH Str.empty = true) (hd_Shade : PySem.W.hasDictIn K CH = true) (po_Shade : PySem.W.plainOver K CH = true) (sa_Shade : PySem.W.findIn K (.ref CH) "__setattr__" = some (some (.builtin "object.__setattr__"))) (mk_Shade : PySem.W.makesIn K CH = true) (kc_Shade : PySem.W.keepIn K (.ref CH) = true)
    (n_Shade_area : PySem.W.findIn K (.ref CH) "area" = some none)
    (n_Shade_depth : PySem.W.findIn K (.ref CH) "depth" = some none)
    (n_Shade_share : PySem.W.findIn K (.ref CH) "share" = some none)
    (n_Shade_looks : PySem.W.findIn K (.ref CH) "looks" = some none)
    (pg_Canvas : PySem.W.plainGet K CC Str.empty = true) (hd_Canvas : PySem.W.hasDictIn K CC = true) (po_Canvas : PySem.W.plainOver K CC = true) (sa_Canvas : PySem.W.findIn K (.ref CC) "__setattr__" = some (some (.builtin "object.__setattr__"))) (mk_Canvas : PySem.W.makesIn K CC = true) (kc_Canvas : PySem.W.keepIn K (.ref CC) = true)
    (n_Canvas_w : PySem.W.findIn K (.ref CC) "w" = some none)
    (n_Canvas_pix : PySem.W.findIn K (.ref CC) "pix" = some none)
    (n_Canvas_depth : PySem.W.findIn K (.ref CC) "depth" = some none)
    (n_Canvas_pattern : PySem.W.findIn K (.ref CC) "pattern" = some none)
    (n_Canvas_left : PySem.W.findIn K (.ref CC) "left" = some none)
    (n_Canvas_top : PySem.W.findIn K (.ref CC) "top" = some none)
    (n_Canvas_right : PySem.W.findIn K (.ref CC) "right" = some none)
    (n_Canvas_bottom : PySem.W.findIn K (.ref CC) "bottom" = some none)
    (n_Canvas_skips_against : PySem.W.findIn K (.ref CC) "skips_against" = some none)
    (n_Canvas_skips_by : PySem.W.findIn K (.ref CC) "skips_by" = some none)
    (n_Canvas_asks_depth : PySem.W.findIn K (.ref CC) "asks_depth" = some none)
    (n_Canvas_keeps_depth : PySem.W.findIn K (.ref CC) "keeps_depth" = some none)
    (n_Canvas_has_pattern : PySem.W.findIn K (.ref CC) "has_pattern" = some none)
    (n_Canvas_mixes : PySem.W.findIn K (.ref CC) "mixes" = some none)
    (z_range : PySem.W.nsIn K mainGlobals "range" = some none)
    (z_max : PySem.W.nsIn K mainGlobals "max" = some none)
    (z_min : PySem.W.nsIn K mainGlobals "min" = some none)
    (z_zip : PySem.W.nsIn K mainGlobals "zip" = some none)
    (z_list : PySem.W.nsIn K mainGlobals "list" = some none)
    (z_sum : PySem.W.nsIn K mainGlobals "sum" = some none)
    (z_all : PySem.W.nsIn K mainGlobals "all" = some none)
    (z_len : PySem.W.nsIn K mainGlobals "len" = some none)
    (g_LONGEST_SIDE : PySem.W.nsIn K mainGlobals "LONGEST_SIDE" = some (some (.int 1024 tk_LONGEST_SIDE)))
    (g_MOST_CORNERS : PySem.W.nsIn K mainGlobals "MOST_CORNERS" = some (some (.int 4096 tk_MOST_CORNERS)))
    (g_MOST_FACES : PySem.W.nsIn K mainGlobals "MOST_FACES" = some (some (.int 8192 tk_MOST_FACES)))
    (g_HIGHEST_MODE : PySem.W.nsIn K mainGlobals "HIGHEST_MODE" = some (some (.int 63 tk_HIGHEST_MODE)))
    (g_BEYOND : PySem.W.nsIn K mainGlobals "BEYOND" = some (some (.int 16777216 tk_BEYOND)))
    (g_FARTHEST_DEPTH : PySem.W.nsIn K mainGlobals "FARTHEST_DEPTH" = some (some (.int 16777215 tk_FARTHEST_DEPTH)))
    (g_HIGHEST_COLOR : PySem.W.nsIn K mainGlobals "HIGHEST_COLOR" = some (some (.int 65535 tk_HIGHEST_COLOR)))
    (g_CORNER_NUMBERS : PySem.W.nsIn K mainGlobals "CORNER_NUMBERS" = some (some (.int 10 tk_CORNER_NUMBERS)))
    (g_COLOR_PLACES : PySem.W.nsIn K mainGlobals "COLOR_PLACES" = some (some (.ref a_COLOR_PLACES))) (lt_COLOR_PLACES : K.lookup a_COLOR_PLACES = some ⟨.type "tuple", dt_COLOR_PLACES, .seq #[.int 4 tk0_COLOR_PLACES, .int 5 tk1_COLOR_PLACES, .int 6 tk2_COLOR_PLACES, .int 7 tk3_COLOR_PLACES] n_COLOR_PLACES, slt_COLOR_PLACES⟩)
    (g_CUT_W : PySem.W.nsIn K mainGlobals "CUT_W" = some (some (.int 4096 tk_CUT_W)))
    (g_FARTHEST_PLACE : PySem.W.nsIn K mainGlobals "FARTHEST_PLACE" = some (some (.int 32768 tk_FARTHEST_PLACE)))
    (g_MIDDLE_DEPTH : PySem.W.nsIn K mainGlobals "MIDDLE_DEPTH" = some (some (.int 8388608 tk_MIDDLE_DEPTH)))
    (g_ONE_SHARE : PySem.W.nsIn K mainGlobals "ONE_SHARE" = some (some (.int 268435456 tk_ONE_SHARE)))
    (g_PATTERN_SIDE : PySem.W.nsIn K mainGlobals "PATTERN_SIDE" = some (some (.int 64 tk_PATTERN_SIDE)))
    (g_PIXEL : PySem.W.nsIn K mainGlobals "PIXEL" = some (some (.int 16 tk_PIXEL)))
    (g_MIDDLE : PySem.W.nsIn K mainGlobals "MIDDLE" = some (some (.int 8 tk_MIDDLE))) :
    ∃ fd : FuncData, (∀ (s : Shared) (us : List Value), us.length = (["w", "h", "n", "faces", "mode", "pix", "depth", "m", "corners", "index", "pattern", "window"] : List Str).length → BindsTo s fd ⟨us, []⟩ ((["w", "h", "n", "faces", "mode", "pix", "depth", "m", "corners", "index", "pattern", "window"] : List Str).zip us)) ∧ ∀ base : Heap, K.In base → base.Ns mainGlobals mg → FnOk P w K mg base CX0 9 fa fd ["w", "h", "n", "faces", "mode", "pix", "depth", "m", "corners", "index", "pattern", "window"] (spDraw K) := by
  have e := hfa.symm.trans (PySem.W.mg_of X G a_draw)
  cases e
  have T_Slope : Fields K CS nSlope := ⟨⟨pg_Slope, hd_Slope, po_Slope, sa_Slope⟩, fun f hf => by
    have hf' : f = "start" ∨ f = "by_column" ∨ f = "by_row" := by simpa using hf
    rcases hf' with rfl | rfl | rfl
    · exact n_Slope_start
    · exact n_Slope_by_column
    · exact n_Slope_by_row⟩
  have T_Shade : Fields K CH nShade := ⟨⟨pg_Shade, hd_Shade, po_Shade, sa_Shade⟩, fun f hf => by
    have hf' : f = "area" ∨ f = "depth" ∨ f = "share" ∨ f = "looks" := by simpa using hf
    rcases hf' with rfl | rfl | rfl | rfl
    · exact n_Shade_area
    · exact n_Shade_depth
    · exact n_Shade_share
    · exact n_Shade_looks⟩
  have T_Canvas : Fields K CC nCanvas := ⟨⟨pg_Canvas, hd_Canvas, po_Canvas, sa_Canvas⟩, fun f hf => by
    have hf' : f = "w" ∨ f = "pix" ∨ f = "depth" ∨ f = "pattern" ∨ f = "left" ∨ f = "top" ∨ f = "right" ∨ f = "bottom" ∨ f = "skips_against" ∨ f = "skips_by" ∨ f = "asks_depth" ∨ f = "keeps_depth" ∨ f = "has_pattern" ∨ f = "mixes" := by simpa using hf
    rcases hf' with rfl | rfl | rfl | rfl | rfl | rfl | rfl | rfl | rfl | rfl | rfl | rfl | rfl | rfl
    · exact n_Canvas_w
    · exact n_Canvas_pix
    · exact n_Canvas_depth
    · exact n_Canvas_pattern
    · exact n_Canvas_left
    · exact n_Canvas_top
    · exact n_Canvas_right
    · exact n_Canvas_bottom
    · exact n_Canvas_skips_against
    · exact n_Canvas_skips_by
    · exact n_Canvas_asks_depth
    · exact n_Canvas_keeps_depth
    · exact n_Canvas_has_pattern
    · exact n_Canvas_mixes⟩
  have m_range : mg "range" = none := PySem.W.mg_none_of X G z_range
  have m_max : mg "max" = none := PySem.W.mg_none_of X G z_max
  have m_min : mg "min" = none := PySem.W.mg_none_of X G z_min
  have m_zip : mg "zip" = none := PySem.W.mg_none_of X G z_zip
  have m_list : mg "list" = none := PySem.W.mg_none_of X G z_list
  have m_sum : mg "sum" = none := PySem.W.mg_none_of X G z_sum
  have m_all : mg "all" = none := PySem.W.mg_none_of X G z_all
  have m_len : mg "len" = none := PySem.W.mg_none_of X G z_len
  have m_LONGEST_SIDE : Num mg "LONGEST_SIDE" 1024 := ⟨_, PySem.W.mg_of X G g_LONGEST_SIDE⟩
  have m_MOST_CORNERS : Num mg "MOST_CORNERS" 4096 := ⟨_, PySem.W.mg_of X G g_MOST_CORNERS⟩
  have m_MOST_FACES : Num mg "MOST_FACES" 8192 := ⟨_, PySem.W.mg_of X G g_MOST_FACES⟩
  have m_HIGHEST_MODE : Num mg "HIGHEST_MODE" 63 := ⟨_, PySem.W.mg_of X G g_HIGHEST_MODE⟩
  have m_BEYOND : Num mg "BEYOND" 16777216 := ⟨_, PySem.W.mg_of X G g_BEYOND⟩
  have m_FARTHEST_DEPTH : Num mg "FARTHEST_DEPTH" 16777215 := ⟨_, PySem.W.mg_of X G g_FARTHEST_DEPTH⟩
  have m_HIGHEST_COLOR : Num mg "HIGHEST_COLOR" 65535 := ⟨_, PySem.W.mg_of X G g_HIGHEST_COLOR⟩
  have m_CORNER_NUMBERS : Num mg "CORNER_NUMBERS" 10 := ⟨_, PySem.W.mg_of X G g_CORNER_NUMBERS⟩
  have m_COLOR_PLACES : mg "COLOR_PLACES" = some (.ref a_COLOR_PLACES) := PySem.W.mg_of X G g_COLOR_PLACES
  have t_COLOR_PLACES : ∀ H : Hp, SqT K H a_COLOR_PLACES [.int 4, .int 5, .int 6, .int 7] := fun H => .inr ⟨_, _, _, lt_COLOR_PLACES, rfl, rfl, by show 4 ≤ sizeLine; decide, .cons ⟨_, rfl⟩ (.cons ⟨_, rfl⟩ (.cons ⟨_, rfl⟩ (.cons ⟨_, rfl⟩ (.nil))))⟩
  have m_CUT_W : Num mg "CUT_W" 4096 := ⟨_, PySem.W.mg_of X G g_CUT_W⟩
  have m_FARTHEST_PLACE : Num mg "FARTHEST_PLACE" 32768 := ⟨_, PySem.W.mg_of X G g_FARTHEST_PLACE⟩
  have m_MIDDLE_DEPTH : Num mg "MIDDLE_DEPTH" 8388608 := ⟨_, PySem.W.mg_of X G g_MIDDLE_DEPTH⟩
  have m_ONE_SHARE : Num mg "ONE_SHARE" 268435456 := ⟨_, PySem.W.mg_of X G g_ONE_SHARE⟩
  have m_PATTERN_SIDE : Num mg "PATTERN_SIDE" 64 := ⟨_, PySem.W.mg_of X G g_PATTERN_SIDE⟩
  have m_PIXEL : Num mg "PIXEL" 16 := ⟨_, PySem.W.mg_of X G g_PIXEL⟩
  have m_MIDDLE : Num mg "MIDDLE" 8 := ⟨_, PySem.W.mg_of X G g_MIDDLE⟩
  have F_product := fun_mk (st := s_product) l_product cc_product k_product
  have b_product := F_product.binds (ps := ["x", "y"]) fun _ _ _ _ _ _ us hl => match us, hl with | [_, _], _ => rfl
  have F_split_pixel := fun_mk (st := s_split_pixel) l_split_pixel cc_split_pixel k_split_pixel
  have b_split_pixel := F_split_pixel.binds (ps := ["pixel"]) fun _ _ _ _ _ _ us hl => match us, hl with | [_], _ => rfl
  have F_joined_pixel := fun_mk (st := s_joined_pixel) l_joined_pixel cc_joined_pixel k_joined_pixel
  have b_joined_pixel := F_joined_pixel.binds (ps := ["color"]) fun _ _ _ _ _ _ us hl => match us, hl with | [_], _ => rfl
  have F_patterned := fun_mk (st := s_patterned) l_patterned cc_patterned k_patterned
  have b_patterned := F_patterned.binds (ps := ["color", "pattern", "u", "v"]) fun _ _ _ _ _ _ us hl => match us, hl with | [_, _, _, _], _ => rfl
  have F_mixed := fun_mk (st := s_mixed) l_mixed cc_mixed k_mixed
  have b_mixed := F_mixed.binds (ps := ["color", "old"]) fun _ _ _ _ _ _ us hl => match us, hl with | [_, _], _ => rfl
  have F_Slope_init := fun_mk (st := s_Slope_init) l_Slope_init cc_Slope_init k_Slope_init
  have b_Slope_init := F_Slope_init.binds (ps := ["self", "start", "by_column", "by_row"]) fun _ _ _ _ _ _ us hl => match us, hl with | [_, _, _, _], _ => rfl
  have F_Slope_at := fun_mk (st := s_Slope_at) l_Slope_at cc_Slope_at k_Slope_at
  have b_Slope_at := F_Slope_at.binds (ps := ["self", "i", "j"]) fun _ _ _ _ _ _ us hl => match us, hl with | [_, _, _], _ => rfl
  have F_edge_slope := fun_mk (st := s_edge_slope) l_edge_slope cc_edge_slope k_edge_slope
  have b_edge_slope := F_edge_slope.binds (ps := ["first", "second"]) fun _ _ _ _ _ _ us hl => match us, hl with | [_, _], _ => rfl
  have F_weighted := fun_mk (st := s_weighted) l_weighted cc_weighted k_weighted
  have b_weighted := F_weighted.binds (ps := ["weights", "factors"]) fun _ _ _ _ _ _ us hl => match us, hl with | [_, _], _ => rfl
  have F_shared := fun_mk (st := s_shared) l_shared cc_shared k_shared
  have b_shared := F_shared.binds (ps := ["weights", "triangle", "place"]) fun _ _ _ _ _ _ us hl => match us, hl with | [_, _, _], _ => rfl
  have F_least_inside := fun_mk (st := s_least_inside) l_least_inside cc_least_inside k_least_inside
  have b_least_inside := F_least_inside.binds (ps := ["edge"]) fun _ _ _ _ _ _ us hl => match us, hl with | [_], _ => rfl
  have F_Shade_init := fun_mk (st := s_Shade_init) l_Shade_init cc_Shade_init k_Shade_init
  have b_Shade_init := F_Shade_init.binds (ps := ["self", "triangle", "weights", "area"]) fun _ _ _ _ _ _ us hl => match us, hl with | [_, _, _, _], _ => rfl
  have F_row_span := fun_mk (st := s_row_span) l_row_span cc_row_span k_row_span
  have b_row_span := F_row_span.binds (ps := ["canvas", "edges", "j"]) fun _ _ _ _ _ _ us hl => match us, hl with | [_, _, _], _ => rfl
  have F_new_pixel := fun_mk (st := s_new_pixel) l_new_pixel cc_new_pixel k_new_pixel
  have b_new_pixel := F_new_pixel.binds (ps := ["canvas", "shade", "i", "j", "old"]) fun _ _ _ _ _ _ us hl => match us, hl with | [_, _, _, _, _], _ => rfl
  have F_draw_row := fun_mk (st := s_draw_row) l_draw_row cc_draw_row k_draw_row
  have b_draw_row := F_draw_row.binds (ps := ["canvas", "shade", "j", "left", "right"]) fun _ _ _ _ _ _ us hl => match us, hl with | [_, _, _, _, _], _ => rfl
  have F_turn := fun_mk (st := s_turn) l_turn cc_turn k_turn
  have b_turn := F_turn.binds (ps := ["triangle"]) fun _ _ _ _ _ _ us hl => match us, hl with | [_], _ => rfl
  have F_fill_triangle := fun_mk (st := s_fill_triangle) l_fill_triangle cc_fill_triangle k_fill_triangle
  have b_fill_triangle := F_fill_triangle.binds (ps := ["canvas", "triangle", "area"]) fun _ _ _ _ _ _ us hl => match us, hl with | [_, _, _], _ => rfl
  have F_draw_triangle := fun_mk (st := s_draw_triangle) l_draw_triangle cc_draw_triangle k_draw_triangle
  have b_draw_triangle := F_draw_triangle.binds (ps := ["canvas", "triangle"]) fun _ _ _ _ _ _ us hl => match us, hl with | [_, _], _ => rfl
  have F_times := fun_mk (st := s_times) l_times cc_times k_times
  have b_times := F_times.binds (ps := ["row", "place"]) fun _ _ _ _ _ _ us hl => match us, hl with | [_, _], _ => rfl
  have F_moved_corner := fun_mk (st := s_moved_corner) l_moved_corner cc_moved_corner k_moved_corner
  have b_moved_corner := F_moved_corner.binds (ps := ["m", "corner"]) fun _ _ _ _ _ _ us hl => match us, hl with | [_, _], _ => rfl
  have F_moved_corners := fun_mk (st := s_moved_corners) l_moved_corners cc_moved_corners k_moved_corners
  have b_moved_corners := F_moved_corners.binds (ps := ["m", "corners"]) fun _ _ _ _ _ _ us hl => match us, hl with | [_, _], _ => rfl
  have F_is_in_front := fun_mk (st := s_is_in_front) l_is_in_front cc_is_in_front k_is_in_front
  have b_is_in_front := F_is_in_front.binds (ps := ["corner"]) fun _ _ _ _ _ _ us hl => match us, hl with | [_], _ => rfl
  have F_crossing := fun_mk (st := s_crossing) l_crossing cc_crossing k_crossing
  have b_crossing := F_crossing.binds (ps := ["front", "behind"]) fun _ _ _ _ _ _ us hl => match us, hl with | [_, _], _ => rfl
  have F_cut_face := fun_mk (st := s_cut_face) l_cut_face cc_cut_face k_cut_face
  have b_cut_face := F_cut_face.binds (ps := ["face"]) fun _ _ _ _ _ _ us hl => match us, hl with | [_], _ => rfl
  have F_put_corner := fun_mk (st := s_put_corner) l_put_corner cc_put_corner k_put_corner
  have b_put_corner := F_put_corner.binds (ps := ["w", "h", "corner"]) fun _ _ _ _ _ _ us hl => match us, hl with | [_, _, _], _ => rfl
  have F_is_near := fun_mk (st := s_is_near) l_is_near cc_is_near k_is_near
  have b_is_near := F_is_near.binds (ps := ["corner"]) fun _ _ _ _ _ _ us hl => match us, hl with | [_], _ => rfl
  have F_face_triangles := fun_mk (st := s_face_triangles) l_face_triangles cc_face_triangles k_face_triangles
  have b_face_triangles := F_face_triangles.binds (ps := ["w", "h", "face"]) fun _ _ _ _ _ _ us hl => match us, hl with | [_, _, _], _ => rfl
  have F_is_picture_size := fun_mk (st := s_is_picture_size) l_is_picture_size cc_is_picture_size k_is_picture_size
  have b_is_picture_size := F_is_picture_size.binds (ps := ["w", "h"]) fun _ _ _ _ _ _ us hl => match us, hl with | [_, _], _ => rfl
  have F_are_counts := fun_mk (st := s_are_counts) l_are_counts cc_are_counts k_are_counts
  have b_are_counts := F_are_counts.binds (ps := ["n", "faces"]) fun _ _ _ _ _ _ us hl => match us, hl with | [_, _], _ => rfl
  have F_is_mode := fun_mk (st := s_is_mode) l_is_mode cc_is_mode k_is_mode
  have b_is_mode := F_is_mode.binds (ps := ["mode"]) fun _ _ _ _ _ _ us hl => match us, hl with | [_], _ => rfl
  have F_are_plain_numbers := fun_mk (st := s_are_plain_numbers) l_are_plain_numbers cc_are_plain_numbers k_are_plain_numbers
  have b_are_plain_numbers := F_are_plain_numbers.binds (ps := ["numbers"]) fun _ _ _ _ _ _ us hl => match us, hl with | [_], _ => rfl
  have F_are_colors := fun_mk (st := s_are_colors) l_are_colors cc_are_colors k_are_colors
  have b_are_colors := F_are_colors.binds (ps := ["numbers"]) fun _ _ _ _ _ _ us hl => match us, hl with | [_], _ => rfl
  have F_are_corners := fun_mk (st := s_are_corners) l_are_corners cc_are_corners k_are_corners
  have b_are_corners := F_are_corners.binds (ps := ["corners"]) fun _ _ _ _ _ _ us hl => match us, hl with | [_], _ => rfl
  have F_is_solid := fun_mk (st := s_is_solid) l_is_solid cc_is_solid k_is_solid
  have b_is_solid := F_is_solid.binds (ps := ["n", "m", "corners", "index"]) fun _ _ _ _ _ _ us hl => match us, hl with | [_, _, _, _], _ => rfl
  have F_moved_faces := fun_mk (st := s_moved_faces) l_moved_faces cc_moved_faces k_moved_faces
  have b_moved_faces := F_moved_faces.binds (ps := ["m", "corners", "faces", "index"]) fun _ _ _ _ _ _ us hl => match us, hl with | [_, _, _, _], _ => rfl
  have F_faces_refusal := fun_mk (st := s_faces_refusal) l_faces_refusal cc_faces_refusal k_faces_refusal
  have b_faces_refusal := F_faces_refusal.binds (ps := ["w", "h", "n", "faces", "m", "corners", "index"]) fun _ _ _ _ _ _ us hl => match us, hl with | [_, _, _, _, _, _, _], _ => rfl
  have F_draw_refusal := fun_mk (st := s_draw_refusal) l_draw_refusal cc_draw_refusal k_draw_refusal
  have b_draw_refusal := F_draw_refusal.binds (ps := ["w", "h", "n", "faces", "mode", "depth", "m", "corners", "index", "window"]) fun _ _ _ _ _ _ us hl => match us, hl with | [_, _, _, _, _, _, _, _, _, _], _ => rfl
  have F_Canvas_init := fun_mk (st := s_Canvas_init) l_Canvas_init cc_Canvas_init k_Canvas_init
  have b_Canvas_init := F_Canvas_init.binds (ps := ["self", "w", "h", "mode", "pix", "depth", "pattern", "window"]) fun _ _ _ _ _ _ us hl => match us, hl with | [_, _, _, _, _, _, _, _], _ => rfl
  have F_draw := fun_mk (st := s_draw) l_draw cc_draw k_draw
  refine ⟨PySem.W.fnOf "draw" "draw" (defArgs s_draw) (defBody s_draw) (defScope s_draw) .none kV_draw dc_draw pm_draw an_draw cd_draw ct_draw, fun s us hu => match us, hu with | [_, _, _, _, _, _, _, _, _, _, _, _], _ => .of_eq rfl, fun base _ _ => ?_⟩
  have c_product : Can P w K mg base 1 "product" ["x", "y"] spProduct := ⟨_, _, ok_product F_product , PySem.W.mg_of X G a_product, k_product, b_product⟩
  have c_split_pixel : Can P w K mg base 1 "split_pixel" ["pixel"] spSplit := ⟨_, _, ok_split F_split_pixel , PySem.W.mg_of X G a_split_pixel, k_split_pixel, b_split_pixel⟩
  have c_joined_pixel : Can P w K mg base 1 "joined_pixel" ["color"] (spJoined K) := ⟨_, _, ok_joined F_joined_pixel , PySem.W.mg_of X G a_joined_pixel, k_joined_pixel, b_joined_pixel⟩
  have c_patterned : Can P w K mg base 2 "patterned" ["color", "pattern", "u", "v"] (spPatterned K) := ⟨_, _, ok_patterned F_patterned m_PATTERN_SIDE m_zip c_split_pixel c_product, PySem.W.mg_of X G a_patterned, k_patterned, b_patterned⟩
  have c_mixed : Can P w K mg base 2 "mixed" ["color", "old"] (spMixed K) := ⟨_, _, ok_mixed F_mixed m_zip c_product, PySem.W.mg_of X G a_mixed, k_mixed, b_mixed⟩
  have c_Slope : Makes P w K mg base 1 "Slope" CS ["self", "start", "by_column", "by_row"] (spSlope CS) := ⟨_, _, ok_Slope F_Slope_init T_Slope, PySem.W.mg_of X G aC_Slope, ⟨mk_Slope, a_Slope_init, i_Slope_init, kc_Slope⟩, b_Slope_init⟩
  have d_Slope_at : Does P w K mg base 1 CS "at" ["self", "i", "j"] (spAt CS) := ⟨_, _, ok_at F_Slope_at T_Slope, ⟨a_Slope_at, i_Slope_at, k_Slope_at⟩, b_Slope_at⟩
  have c_edge_slope : Can P w K mg base 3 "edge_slope" ["first", "second"] (spEdge K CS) := ⟨_, _, ok_edge F_edge_slope m_MIDDLE m_PIXEL c_Slope, PySem.W.mg_of X G a_edge_slope, k_edge_slope, b_edge_slope⟩
  have c_weighted : Can P w K mg base 3 "weighted" ["weights", "factors"] (spWeighted K CS) := ⟨_, _, ok_weighted F_weighted T_Slope m_list m_zip m_sum c_Slope, PySem.W.mg_of X G a_weighted, k_weighted, b_weighted⟩
  have c_shared : Can P w K mg base 4 "shared" ["weights", "triangle", "place"] (spShared K CS) := ⟨_, _, ok_shared F_shared c_weighted, PySem.W.mg_of X G a_shared, k_shared, b_shared⟩
  have c_least_inside : Can P w K mg base 1 "least_inside" ["edge"] (spLeast CS) := ⟨_, _, ok_least F_least_inside T_Slope, PySem.W.mg_of X G a_least_inside, k_least_inside, b_least_inside⟩
  have c_Shade : Makes P w K mg base 5 "Shade" CH ["self", "triangle", "weights", "area"] (spShade K CH CS) := ⟨_, _, ok_Shade F_Shade_init T_Shade m_range c_weighted c_shared, PySem.W.mg_of X G aC_Shade, ⟨mk_Shade, a_Shade_init, i_Shade_init, kc_Shade⟩, b_Shade_init⟩
  have c_row_span : Can P w K mg base 2 "row_span" ["canvas", "edges", "j"] (spSpan K CC CS) := ⟨_, _, ok_span F_row_span T_Canvas T_Slope m_max m_min d_Slope_at c_least_inside, PySem.W.mg_of X G a_row_span, k_row_span, b_row_span⟩
  have c_new_pixel : Can P w K mg base 3 "new_pixel" ["canvas", "shade", "i", "j", "old"] (spNewPixel K CC CH CS) := ⟨_, _, ok_newPixel F_new_pixel T_Canvas T_Shade T_Slope d_Slope_at c_patterned c_mixed c_split_pixel c_joined_pixel, PySem.W.mg_of X G a_new_pixel, k_new_pixel, b_new_pixel⟩
  have c_draw_row : Can P w K mg base 4 "draw_row" ["canvas", "shade", "j", "left", "right"] (spDrawRow K CC CH CS) := ⟨_, _, ok_drawRow F_draw_row T_Canvas T_Shade T_Slope m_range d_Slope_at c_new_pixel, PySem.W.mg_of X G a_draw_row, k_draw_row, b_draw_row⟩
  have c_turn : Can P w K mg base 1 "turn" ["triangle"] (spTurn K) := ⟨_, _, ok_turn F_turn , PySem.W.mg_of X G a_turn, k_turn, b_turn⟩
  have c_fill_triangle : Can P w K mg base 7 "fill_triangle" ["canvas", "triangle", "area"] (spFill K CC) := ⟨_, _, ok_fill F_fill_triangle T_Canvas m_range m_max m_min m_MIDDLE m_PIXEL c_edge_slope c_Shade c_row_span c_draw_row, PySem.W.mg_of X G a_fill_triangle, k_fill_triangle, b_fill_triangle⟩
  have c_draw_triangle : Can P w K mg base 8 "draw_triangle" ["canvas", "triangle"] (spTriangle K CC) := ⟨_, _, ok_triangle F_draw_triangle T_Canvas c_turn c_fill_triangle, PySem.W.mg_of X G a_draw_triangle, k_draw_triangle, b_draw_triangle⟩
  have c_times : Can P w K mg base 1 "times" ["row", "place"] (spTimes K) := ⟨_, _, ok_times F_times m_sum m_zip, PySem.W.mg_of X G a_times, k_times, b_times⟩
  have c_moved_corner : Can P w K mg base 2 "moved_corner" ["m", "corner"] (spMovedCorner K) := ⟨_, _, ok_movedCorner F_moved_corner c_times, PySem.W.mg_of X G a_moved_corner, k_moved_corner, b_moved_corner⟩
  have c_moved_corners : Can P w K mg base 3 "moved_corners" ["m", "corners"] (spMovedAll K) := ⟨_, _, ok_movedAll F_moved_corners m_CORNER_NUMBERS m_list m_range m_len c_moved_corner, PySem.W.mg_of X G a_moved_corners, k_moved_corners, b_moved_corners⟩
  have c_is_in_front : Can P w K mg base 1 "is_in_front" ["corner"] (spFront K) := ⟨_, _, ok_front F_is_in_front m_CUT_W, PySem.W.mg_of X G a_is_in_front, k_is_in_front, b_is_in_front⟩
  have c_crossing : Can P w K mg base 1 "crossing" ["front", "behind"] (spCrossing K) := ⟨_, _, ok_crossing F_crossing m_CUT_W m_zip, PySem.W.mg_of X G a_crossing, k_crossing, b_crossing⟩
  have c_cut_face : Can P w K mg base 2 "cut_face" ["face"] (spCut K) := ⟨_, _, ok_cut F_cut_face m_zip c_is_in_front c_crossing, PySem.W.mg_of X G a_cut_face, k_cut_face, b_cut_face⟩
  have c_put_corner : Can P w K mg base 1 "put_corner" ["w", "h", "corner"] (spPut K) := ⟨_, _, ok_put F_put_corner m_MIDDLE_DEPTH m_ONE_SHARE m_FARTHEST_DEPTH m_min m_max, PySem.W.mg_of X G a_put_corner, k_put_corner, b_put_corner⟩
  have c_is_near : Can P w K mg base 1 "is_near" ["corner"] (spNear K) := ⟨_, _, ok_near F_is_near m_FARTHEST_PLACE m_min m_max, PySem.W.mg_of X G a_is_near, k_is_near, b_is_near⟩
  have c_face_triangles : Can P w K mg base 3 "face_triangles" ["w", "h", "face"] (spFaceTri noSpot) := ⟨_, _, ok_faceTri noSpot F_face_triangles m_all m_range m_len c_cut_face c_put_corner c_is_near, PySem.W.mg_of X G a_face_triangles, k_face_triangles, b_face_triangles⟩
  have c_is_picture_size : Can P w K mg base 1 "is_picture_size" ["w", "h"] spSize := ⟨_, _, ok_size F_is_picture_size m_LONGEST_SIDE, PySem.W.mg_of X G a_is_picture_size, k_is_picture_size, b_is_picture_size⟩
  have c_are_counts : Can P w K mg base 1 "are_counts" ["n", "faces"] spCounts := ⟨_, _, ok_counts F_are_counts m_MOST_CORNERS m_MOST_FACES, PySem.W.mg_of X G a_are_counts, k_are_counts, b_are_counts⟩
  have c_is_mode : Can P w K mg base 1 "is_mode" ["mode"] spMode := ⟨_, _, ok_mode F_is_mode m_HIGHEST_MODE, PySem.W.mg_of X G a_is_mode, k_is_mode, b_is_mode⟩
  have c_are_plain_numbers : Can P w K mg base 1 "are_plain_numbers" ["numbers"] (spPlain K) := ⟨_, _, ok_plain F_are_plain_numbers m_BEYOND m_min m_max, PySem.W.mg_of X G a_are_plain_numbers, k_are_plain_numbers, b_are_plain_numbers⟩
  have c_are_colors : Can P w K mg base 1 "are_colors" ["numbers"] (spColors K) := ⟨_, _, ok_colors F_are_colors m_HIGHEST_COLOR m_min m_max, PySem.W.mg_of X G a_are_colors, k_are_colors, b_are_colors⟩
  have c_are_corners : Can P w K mg base 2 "are_corners" ["corners"] (spCorners K) := ⟨_, _, ok_corners F_are_corners m_CORNER_NUMBERS m_COLOR_PLACES t_COLOR_PLACES m_range c_are_colors c_are_plain_numbers, PySem.W.mg_of X G a_are_corners, k_are_corners, b_are_corners⟩
  have c_is_solid : Can P w K mg base 3 "is_solid" ["n", "m", "corners", "index"] (spSolid K) := ⟨_, _, ok_solid F_is_solid m_max c_are_plain_numbers c_are_corners, PySem.W.mg_of X G a_is_solid, k_is_solid, b_is_solid⟩
  have c_moved_faces : Can P w K mg base 4 "moved_faces" ["m", "corners", "faces", "index"] (spMovedFaces K) := ⟨_, _, ok_movedFaces F_moved_faces m_range c_moved_corners, PySem.W.mg_of X G a_moved_faces, k_moved_faces, b_moved_faces⟩
  have c_faces_refusal : Can P w K mg base 4 "faces_refusal" ["w", "h", "n", "faces", "m", "corners", "index"] (spFRefusal K) := ⟨_, _, ok_frefusal F_faces_refusal c_is_picture_size c_are_counts c_is_solid, PySem.W.mg_of X G a_faces_refusal, k_faces_refusal, b_faces_refusal⟩
  have c_draw_refusal : Can P w K mg base 5 "draw_refusal" ["w", "h", "n", "faces", "mode", "depth", "m", "corners", "index", "window"] (spRefusal K) := ⟨_, _, ok_refusal F_draw_refusal m_max m_BEYOND c_is_mode c_faces_refusal c_are_plain_numbers, PySem.W.mg_of X G a_draw_refusal, k_draw_refusal, b_draw_refusal⟩
  have c_Canvas : Makes P w K mg base 1 "Canvas" CC ["self", "w", "h", "mode", "pix", "depth", "pattern", "window"] (spCanvas K CC) := ⟨_, _, ok_Canvas F_Canvas_init T_Canvas m_list m_max m_min, PySem.W.mg_of X G aC_Canvas, ⟨mk_Canvas, a_Canvas_init, i_Canvas_init, kc_Canvas⟩, b_Canvas_init⟩
  exact ok_draw F_draw T_Canvas c_draw_refusal c_Canvas c_moved_faces c_face_triangles c_draw_triangle
end Dw
open PySem PySem.W PyProof.Rows
set_option maxRecDepth 100000 in
set_option maxHeartbeats 0 in
theorem PySem.Challenge.cw_solidpicture_s02_draw_holds : PySem.Challenge.rw_solidpicture_s02_draw.Holds := by
  w_on
  refine holds_os (q := Dw.vTop) (loose := Dw.lTop) (Xt := fun s => xlAt Dw.vTop [] s && recOk [] s) (XP := XL Dw.vTop []) (Yf := Hook.obs (kHook Dw.kTop Dw.aTop Dw.kTop_at)) (Ya := Hook.val (kHook Dw.kTop Dw.aTop Dw.kTop_at)) (YP := Hook.says (kHook Dw.kTop Dw.aTop Dw.kTop_at)) (N := 3902) Dw.left_top (Hook.of (kHook Dw.kTop Dw.aTop Dw.kTop_at)) (Hook.keeps (kHook Dw.kTop Dw.aTop Dw.kTop_at)) (fun s e => xl_of s (Bool.and_eq_true_iff.mp e).1) XL.keeps (by rfl) (by rfl) (by rfl) (fun s e => recFacts_of (Bool.and_eq_true_iff.mp e).2) os_shapes (by decide +kernel) (by decide +kernel) ⟨rfl, rfl, rfl, rfl, rfl, by decide +kernel⟩ ?hw ?hc
  case hw => exact ⟨[.int 0, .int 0, .int (-1), .int (-1), .int 0, .list [], .list [], .list (List.replicate 16 (.int 0)), .list [], .list [], .list (List.replicate 4096 (.int 0)), .list (List.replicate 4 (.int 0))], by decide +kernel, by decide +kernel⟩
  k_fillS
  refine L2.walk_specK (r := PySem.Challenge.rw_solidpicture_s02_draw) (K := Dw.kTop) (k := 9) (CX := L2.CX0) (ps := ["w", "h", "n", "faces", "mode", "pix", "depth", "m", "corners", "index", "pattern", "window"]) (sp := Dw.spDraw) (by decide +kernel) rfl rfl ⟨rfl, by decide, by decide⟩ (fun w h Y => PySem.W.kIn_of Y) ?F ?S (fun _ _ _ _ z => z)
  case F =>
    intro w mg fa h Y KX G hmg
    refine' Dw.all_mk KX G hmg ?aC_Slope ?aC_Shade ?aC_Canvas ?a_product ?l_product ?cc_product ?k_product ?a_split_pixel ?l_split_pixel ?cc_split_pixel ?k_split_pixel ?a_joined_pixel ?l_joined_pixel ?cc_joined_pixel ?k_joined_pixel ?a_patterned ?l_patterned ?cc_patterned ?k_patterned ?a_mixed ?l_mixed ?cc_mixed ?k_mixed ?a_Slope_init ?i_Slope_init ?l_Slope_init ?cc_Slope_init ?k_Slope_init ?a_Slope_at ?i_Slope_at ?l_Slope_at ?cc_Slope_at ?k_Slope_at ?a_edge_slope ?l_edge_slope ?cc_edge_slope ?k_edge_slope ?a_weighted ?l_weighted ?cc_weighted ?k_weighted ?a_shared ?l_shared ?cc_shared ?k_shared ?a_least_inside ?l_least_inside ?cc_least_inside ?k_least_inside ?a_Shade_init ?i_Shade_init ?l_Shade_init ?cc_Shade_init ?k_Shade_init ?a_row_span ?l_row_span ?cc_row_span ?k_row_span ?a_new_pixel ?l_new_pixel ?cc_new_pixel ?k_new_pixel ?a_draw_row ?l_draw_row ?cc_draw_row ?k_draw_row ?a_turn ?l_turn ?cc_turn ?k_turn ?a_fill_triangle ?l_fill_triangle ?cc_fill_triangle ?k_fill_triangle ?a_draw_triangle ?l_draw_triangle ?cc_draw_triangle ?k_draw_triangle ?a_times ?l_times ?cc_times ?k_times ?a_moved_corner ?l_moved_corner ?cc_moved_corner ?k_moved_corner ?a_moved_corners ?l_moved_corners ?cc_moved_corners ?k_moved_corners ?a_is_in_front ?l_is_in_front ?cc_is_in_front ?k_is_in_front ?a_crossing ?l_crossing ?cc_crossing ?k_crossing ?a_cut_face ?l_cut_face ?cc_cut_face ?k_cut_face ?a_put_corner ?l_put_corner ?cc_put_corner ?k_put_corner ?a_is_near ?l_is_near ?cc_is_near ?k_is_near ?a_face_triangles ?l_face_triangles ?cc_face_triangles ?k_face_triangles ?a_is_picture_size ?l_is_picture_size ?cc_is_picture_size ?k_is_picture_size ?a_are_counts ?l_are_counts ?cc_are_counts ?k_are_counts ?a_is_mode ?l_is_mode ?cc_is_mode ?k_is_mode ?a_are_plain_numbers ?l_are_plain_numbers ?cc_are_plain_numbers ?k_are_plain_numbers ?a_are_colors ?l_are_colors ?cc_are_colors ?k_are_colors ?a_are_corners ?l_are_corners ?cc_are_corners ?k_are_corners ?a_is_solid ?l_is_solid ?cc_is_solid ?k_is_solid ?a_moved_faces ?l_moved_faces ?cc_moved_faces ?k_moved_faces ?a_faces_refusal ?l_faces_refusal ?cc_faces_refusal ?k_faces_refusal ?a_draw_refusal ?l_draw_refusal ?cc_draw_refusal ?k_draw_refusal ?a_Canvas_init ?i_Canvas_init ?l_Canvas_init ?cc_Canvas_init ?k_Canvas_init ?a_draw ?l_draw ?cc_draw ?k_draw ?pg_Slope ?hd_Slope ?po_Slope ?sa_Slope ?mk_Slope ?kc_Slope ?n_Slope_start ?n_Slope_by_column ?n_Slope_by_row ?pg_Shade ?hd_Shade ?po_Shade ?sa_Shade ?mk_Shade ?kc_Shade ?n_Shade_area ?n_Shade_depth ?n_Shade_share ?n_Shade_looks ?pg_Canvas ?hd_Canvas ?po_Canvas ?sa_Canvas ?mk_Canvas ?kc_Canvas ?n_Canvas_w ?n_Canvas_pix ?n_Canvas_depth ?n_Canvas_pattern ?n_Canvas_left ?n_Canvas_top ?n_Canvas_right ?n_Canvas_bottom ?n_Canvas_skips_against ?n_Canvas_skips_by ?n_Canvas_asks_depth ?n_Canvas_keeps_depth ?n_Canvas_has_pattern ?n_Canvas_mixes ?z_range ?z_max ?z_min ?z_zip ?z_list ?z_sum ?z_all ?z_len ?g_LONGEST_SIDE ?g_MOST_CORNERS ?g_MOST_FACES ?g_HIGHEST_MODE ?g_BEYOND ?g_FARTHEST_DEPTH ?g_HIGHEST_COLOR ?g_CORNER_NUMBERS ?g_COLOR_PLACES ?lt_COLOR_PLACES ?g_CUT_W ?g_FARTHEST_PLACE ?g_MIDDLE_DEPTH ?g_ONE_SHARE ?g_PATTERN_SIDE ?g_PIXEL ?g_MIDDLE
    (case aC_Slope => k_is)
    (case aC_Shade => k_is)
    (case aC_Canvas => k_is)
    (case a_product => k_is)
    (case l_product => k_is)
    (case cc_product => k_is)
    (case k_product => k_is)
    (case a_split_pixel => k_is)
    (case l_split_pixel => k_is)
    (case cc_split_pixel => k_is)
    (case k_split_pixel => k_is)
    (case a_joined_pixel => k_is)
    (case l_joined_pixel => k_is)
    (case cc_joined_pixel => k_is)
    (case k_joined_pixel => k_is)
    (case a_patterned => k_is)
    (case l_patterned => k_is)
    (case cc_patterned => k_is)
    (case k_patterned => k_is)
    (case a_mixed => k_is)
    (case l_mixed => k_is)
    (case cc_mixed => k_is)
    (case k_mixed => k_is)
    (case a_Slope_init => k_is)
    (case i_Slope_init => k_is)
    (case l_Slope_init => k_is)
    (case cc_Slope_init => k_is)
    (case k_Slope_init => k_is)
    (case a_Slope_at => k_is)
    (case i_Slope_at => k_is)
    (case l_Slope_at => k_is)
    (case cc_Slope_at => k_is)
    (case k_Slope_at => k_is)
    (case a_edge_slope => k_is)
    (case l_edge_slope => k_is)
    (case cc_edge_slope => k_is)
    (case k_edge_slope => k_is)
    (case a_weighted => k_is)
    (case l_weighted => k_is)
    (case cc_weighted => k_is)
    (case k_weighted => k_is)
    (case a_shared => k_is)
    (case l_shared => k_is)
    (case cc_shared => k_is)
    (case k_shared => k_is)
    (case a_least_inside => k_is)
    (case l_least_inside => k_is)
    (case cc_least_inside => k_is)
    (case k_least_inside => k_is)
    (case a_Shade_init => k_is)
    (case i_Shade_init => k_is)
    (case l_Shade_init => k_is)
    (case cc_Shade_init => k_is)
    (case k_Shade_init => k_is)
    (case a_row_span => k_is)
    (case l_row_span => k_is)
    (case cc_row_span => k_is)
    (case k_row_span => k_is)
    (case a_new_pixel => k_is)
    (case l_new_pixel => k_is)
    (case cc_new_pixel => k_is)
    (case k_new_pixel => k_is)
    (case a_draw_row => k_is)
    (case l_draw_row => k_is)
    (case cc_draw_row => k_is)
    (case k_draw_row => k_is)
    (case a_turn => k_is)
    (case l_turn => k_is)
    (case cc_turn => k_is)
    (case k_turn => k_is)
    (case a_fill_triangle => k_is)
    (case l_fill_triangle => k_is)
    (case cc_fill_triangle => k_is)
    (case k_fill_triangle => k_is)
    (case a_draw_triangle => k_is)
    (case l_draw_triangle => k_is)
    (case cc_draw_triangle => k_is)
    (case k_draw_triangle => k_is)
    (case a_times => k_is)
    (case l_times => k_is)
    (case cc_times => k_is)
    (case k_times => k_is)
    (case a_moved_corner => k_is)
    (case l_moved_corner => k_is)
    (case cc_moved_corner => k_is)
    (case k_moved_corner => k_is)
    (case a_moved_corners => k_is)
    (case l_moved_corners => k_is)
    (case cc_moved_corners => k_is)
    (case k_moved_corners => k_is)
    (case a_is_in_front => k_is)
    (case l_is_in_front => k_is)
    (case cc_is_in_front => k_is)
    (case k_is_in_front => k_is)
    (case a_crossing => k_is)
    (case l_crossing => k_is)
    (case cc_crossing => k_is)
    (case k_crossing => k_is)
    (case a_cut_face => k_is)
    (case l_cut_face => k_is)
    (case cc_cut_face => k_is)
    (case k_cut_face => k_is)
    (case a_put_corner => k_is)
    (case l_put_corner => k_is)
    (case cc_put_corner => k_is)
    (case k_put_corner => k_is)
    (case a_is_near => k_is)
    (case l_is_near => k_is)
    (case cc_is_near => k_is)
    (case k_is_near => k_is)
    (case a_face_triangles => k_is)
    (case l_face_triangles => k_is)
    (case cc_face_triangles => k_is)
    (case k_face_triangles => k_is)
    (case a_is_picture_size => k_is)
    (case l_is_picture_size => k_is)
    (case cc_is_picture_size => k_is)
    (case k_is_picture_size => k_is)
    (case a_are_counts => k_is)
    (case l_are_counts => k_is)
    (case cc_are_counts => k_is)
    (case k_are_counts => k_is)
    (case a_is_mode => k_is)
    (case l_is_mode => k_is)
    (case cc_is_mode => k_is)
    (case k_is_mode => k_is)
    (case a_are_plain_numbers => k_is)
    (case l_are_plain_numbers => k_is)
    (case cc_are_plain_numbers => k_is)
    (case k_are_plain_numbers => k_is)
    (case a_are_colors => k_is)
    (case l_are_colors => k_is)
    (case cc_are_colors => k_is)
    (case k_are_colors => k_is)
    (case a_are_corners => k_is)
    (case l_are_corners => k_is)
    (case cc_are_corners => k_is)
    (case k_are_corners => k_is)
    (case a_is_solid => k_is)
    (case l_is_solid => k_is)
    (case cc_is_solid => k_is)
    (case k_is_solid => k_is)
    (case a_moved_faces => k_is)
    (case l_moved_faces => k_is)
    (case cc_moved_faces => k_is)
    (case k_moved_faces => k_is)
    (case a_faces_refusal => k_is)
    (case l_faces_refusal => k_is)
    (case cc_faces_refusal => k_is)
    (case k_faces_refusal => k_is)
    (case a_draw_refusal => k_is)
    (case l_draw_refusal => k_is)
    (case cc_draw_refusal => k_is)
    (case k_draw_refusal => k_is)
    (case a_Canvas_init => k_is)
    (case i_Canvas_init => k_is)
    (case l_Canvas_init => k_is)
    (case cc_Canvas_init => k_is)
    (case k_Canvas_init => k_is)
    (case a_draw => k_is)
    (case l_draw => k_is)
    (case cc_draw => k_is)
    (case k_draw => k_is)
    (case pg_Slope => k_is)
    (case hd_Slope => k_is)
    (case po_Slope => k_is)
    (case sa_Slope => k_is)
    (case mk_Slope => k_is)
    (case kc_Slope => k_is)
    (case n_Slope_start => k_is)
    (case n_Slope_by_column => k_is)
    (case n_Slope_by_row => k_is)
    (case pg_Shade => k_is)
    (case hd_Shade => k_is)
    (case po_Shade => k_is)
    (case sa_Shade => k_is)
    (case mk_Shade => k_is)
    (case kc_Shade => k_is)
    (case n_Shade_area => k_is)
    (case n_Shade_depth => k_is)
    (case n_Shade_share => k_is)
    (case n_Shade_looks => k_is)
    (case pg_Canvas => k_is)
    (case hd_Canvas => k_is)
    (case po_Canvas => k_is)
    (case sa_Canvas => k_is)
    (case mk_Canvas => k_is)
    (case kc_Canvas => k_is)
    (case n_Canvas_w => k_is)
    (case n_Canvas_pix => k_is)
    (case n_Canvas_depth => k_is)
    (case n_Canvas_pattern => k_is)
    (case n_Canvas_left => k_is)
    (case n_Canvas_top => k_is)
    (case n_Canvas_right => k_is)
    (case n_Canvas_bottom => k_is)
    (case n_Canvas_skips_against => k_is)
    (case n_Canvas_skips_by => k_is)
    (case n_Canvas_asks_depth => k_is)
    (case n_Canvas_keeps_depth => k_is)
    (case n_Canvas_has_pattern => k_is)
    (case n_Canvas_mixes => k_is)
    (case z_range => k_is)
    (case z_max => k_is)
    (case z_min => k_is)
    (case z_zip => k_is)
    (case z_list => k_is)
    (case z_sum => k_is)
    (case z_all => k_is)
    (case z_len => k_is)
    (case g_LONGEST_SIDE => k_is)
    (case g_MOST_CORNERS => k_is)
    (case g_MOST_FACES => k_is)
    (case g_HIGHEST_MODE => k_is)
    (case g_BEYOND => k_is)
    (case g_FARTHEST_DEPTH => k_is)
    (case g_HIGHEST_COLOR => k_is)
    (case g_CORNER_NUMBERS => k_is)
    (case g_COLOR_PLACES => k_is)
    (case lt_COLOR_PLACES => k_is)
    (case g_CUT_W => k_is)
    (case g_FARTHEST_PLACE => k_is)
    (case g_MIDDLE_DEPTH => k_is)
    (case g_ONE_SHARE => k_is)
    (case g_PATTERN_SIDE => k_is)
    (case g_PIXEL => k_is)
    (case g_MIDDLE => k_is)
  case S =>
    intro K H xs a hO hwi hask hx
    exact Dw.req_draw K H xs a hask hx
#print axioms PySem.Challenge.cw_solidpicture_s02_draw_holds


end
