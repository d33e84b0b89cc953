import PyProof.Rows.All
import Wide.All
import OpenK.AllK
import Wide.FinOn
import HandS.ForMost
import HandS.ForExc
import HandS.Rev
import HandS.IsInst
import HandS.ExcIs
import HandS.Codes
import KE.RegKIsAll
import HandS.TupMul
import HandS.TupAny
import HandS.Zip
import PySem.Challenge.RW_stillhands_k04_at_once
set_option Elab.async false
set_option linter.all false
set_option maxRecDepth 100000
set_option maxHeartbeats 4000000
/-! words of mine over the hand layer: a def that the module holds under a name (Cal), its call; lists; the draws of a script -/
namespace Sd
open PySem L2
/-- the module's name x holds a def that keeps sp -/
structure Cal (P : Program) (w : World) (K : PySem.W.Frag) (mg : Str → Option Value) (base : Heap) (CX : CXT) (k : Nat) (x : Str) (ps : List Str) (sp : Sp) : Prop where
  ex : ∃ f fd, mg x = some (.ref f) ∧ PySem.W.keepIn K (.ref f) = true ∧ Binds K fd ps [] ∧ FnOk P w K mg base CX k f fd ps sp
section
variable {X : Cx} {CX : CXT} {k : Nat} {ps : List Str} {sp : Sp} {E : XK} {x : Str} {p pos : Pos} {e : Expr} {es : List Expr} {t : TA}
theorem pe_fn (c : Cal X.prog X.w X.K X.mg X.base CX k x ps sp) (hr : Room k X.A) (hx : Passes CX X E) (ha : PA X (e :: es) t) (hg : Gl X x := by rfl)
    (hdb : (x == ("__debug__" : Str)) = false := by decide) (he : starEach (e :: es) X.env = (false, eval e X.env) :: starEach es X.env := by rfl) (hpl : (backTo pos (starEach es X.env)).any (·.1) = false := by rfl) :
    PE X (.Call (.Name x p) (e :: es) [] pos) (tCall sp [] E t) := by
  obtain ⟨f, fd, hm, hk, hb, F⟩ := c.ex
  exact pe_call F hr hg hm hk hb .nil hx ha hdb he hpl
theorem pe_fn0 (c : Cal X.prog X.w X.K X.mg X.base CX k x ps sp) (hr : Room k X.A) (hx : Passes CX X E) (hg : Gl X x := by rfl)
    (hdb : (x == ("__debug__" : Str)) = false := by decide) : PE X (.Call (.Name x p) [] [] pos) (tCall sp [] E tNil) := by
  obtain ⟨f, fd, hm, hk, hb, F⟩ := c.ex
  exact pe_call0 F hr hg hm hk hb .nil hx hdb
end
theorem Cal.mk' {P : Program} {w : World} {K : PySem.W.Frag} {mg : Str → Option Value} {base : Heap} {CX : CXT} {k : Nat} {x q : Str} {st : Stmt} {f : Addr} {fd : FuncData} {ps : List Str} {sp : Sp}
    (F : Fun K x q st f fd) (hm : mg x = some (.ref f)) (b : Binds K fd ps []) (G : FnOk P w K mg base CX k f fd ps sp) : Cal P w K mg base CX k x ps sp := ⟨f, fd, hm, F.kp, b, G⟩

/-! ### heaps -/
/-- what was tracked stands, but for the object at d -/
def But (d : Addr) (H H' : Hp) : Prop := ∀ b o, b ≠ d → H b = some o → H' b = some o
theorem But.refl (d : Addr) (H : Hp) : But d H H := fun _ _ _ h => h
theorem But.trans {d : Addr} {H H1 H2 : Hp} (a : But d H H1) (b : But d H1 H2) : But d H H2 := fun c o n h => b c o n (a c o n h)
theorem But.upd {d : Addr} {H : Hp} {o : HO} : But d H (upd H d o) := fun b u n h => by
  rw [upd_ne n]
  exact h
theorem Same.but {d : Addr} {H H' : Hp} (s : Same H H') : But d H H' := fun b o _ h => s b o h
theorem Same.new {H : Hp} {p : Addr} {o : HO} (h : H p = none) : Same H (upd H p o) := fun b u e => by
  rw [upd_ne (ne_of_none e h)]
  exact e
theorem Same.new2 {H : Hp} {p : Addr} {o o2 : HO} (h : H p = none) : Same H (upd (upd H p o) p o2) := fun b u e => by
  rw [upd_ne (ne_of_none e h), upd_ne (ne_of_none e h)]
  exact e
theorem But.same {d : Addr} {H H' : Hp} (s : But d H H') (h : H d = none) : Same H H' := fun b o e => s b o (ne_of_none e h) e
/-- the heap H' tracks what it did, and at d what it says -/
theorem But.free {d : Addr} {H H' : Hp} (s : But d H H') {u : HO} (hd : H' d = some u) {l : Addr} (h : H' l = none) : H l = none := by
  cases q : H l with
  | none => rfl
  | some o =>
    have n : l ≠ d := fun z => by
      rw [z, hd] at h
      cases h
    rw [s l o n q] at h
    cases h
theorem SqL.new {K : PySem.W.Frag} {H : Hp} {a p : Addr} {xs : List V} {o : HO} (h : SqL K H a xs) (n : H p = none) : SqL K (upd H p o) a xs := Same.seq (Same.new n) h
theorem SqL.but {K : PySem.W.Frag} {H H' : Hp} {a d : Addr} {xs : List V} (h : SqL K H a xs) (s : But d H H') (n : a ≠ d ∨ H d = none) : SqL K H' a xs := by
  rcases n with n | n
  · rcases h with (h | ⟨o, h⟩) | h
    · exact .inl (.inl (s _ _ n h))
    · exact .inl (.inr ⟨o, s _ _ n h⟩)
    · exact .inr h
  · exact Same.seq (s.same n) h
/-- a list that holds the object p is no list of ints -/
theorem SqL.keep {K : PySem.W.Frag} {H H' : Hp} {a d : Addr} {xs ys : List V} (h : SqL K H a xs) (s : But d H H') (hd : H d = some (.lst ys)) (n : ys ≠ xs) : SqL K H' a xs := by
  rcases h with (h | ⟨o, h⟩) | h
  · refine .inl (.inl (s _ _ (fun z => ?_) h))
    rw [z, hd] at h
    exact n (by cases h; rfl)
  · refine .inl (.inr ⟨o, s _ _ (fun z => ?_) h⟩)
    rw [z, hd] at h
    cases h
  · exact .inr h

/-! ### lists of ints -/
theorem ints_get {ns : List Int} {j : Nat} {v : Int} (h : ns[j]? = some v) : (ns.map V.int)[j]? = some (.int v) := by
  rw [List.getElem?_map, h]
  rfl
theorem ints_got {ns : List Int} {j : Nat} {y : V} (h : (ns.map V.int)[j]? = some y) : ∃ v, ns[j]? = some v ∧ y = .int v := by
  rw [List.getElem?_map] at h
  cases e : ns[j]? with
  | none =>
    rw [e] at h
    cases h
  | some v =>
    rw [e] at h
    exact ⟨v, rfl, (Option.some.inj h).symm⟩
theorem ixN_nat {n j : Nat} (hj : j < n) : ixN n ((j : Nat) : Int) = some j := by
  unfold ixN
  rw [if_pos (Int.natCast_nonneg j), if_pos (by omega), Int.toNat_natCast]
theorem size1 {n : Int} (h0 : 0 ≤ n) (h1 : n ≤ 100000) : 1 * n.toNat ≤ sizeLine := Nat.le_trans (by omega : 1 * n.toNat ≤ 100000) (by decide)
def dInts (ns : List Int) : PyData := .list (ns.map PyData.int)
theorem dInts_all {K : PySem.W.Frag} {H : Hp} : ∀ ns : List Int, DpAll K H (ns.map V.int) (ns.map PyData.int)
  | [] => .nil
  | n :: r => .cons (.int n) (dInts_all r)
theorem dInts_dp {K : PySem.W.Frag} {H : Hp} {a : Addr} {ns : List Int} (h : SqL K H a (ns.map V.int)) : Dp K H (.ref a) (dInts ns) := .lst h (dInts_all ns)
theorem lay_ints : ∀ ns : List Int, PyData.canLayAll0 (ns.map PyData.int) = true
  | [] => rfl
  | n :: r => by
    have h := lay_ints r
    show (PyData.canLay0 (.int n) && PyData.canLayAll0 (r.map PyData.int)) = true
    rw [h]
    rfl
theorem depth_ints : ∀ ns : List Int, PyData.depthAll (ns.map PyData.int) = 0
  | [] => rfl
  | n :: r => by
    have h := depth_ints r
    show max (PyData.depth (.int n)) (PyData.depthAll (r.map PyData.int)) = 0
    rw [h]
    rfl
theorem dInts_shaped (ns : List Int) : SeqAt.shaped (dInts ns) = true := by
  have h1 : PyData.canLay0 (dInts ns) = true := lay_ints ns
  have h2 : PyData.depth (dInts ns) = PyData.depthAll (ns.map PyData.int) + 1 := rfl
  rw [depth_ints] at h2
  unfold SeqAt.shaped
  rw [h1, h2]
  rfl
theorem eqv_all : ∀ ns : List Int, PyData.eqvAll (ns.map PyData.int) (ns.map PyData.int) = true
  | [] => rfl
  | n :: r => by
    have h := eqv_all r
    show (PyData.eqv (.int n) (.int n) && PyData.eqvAll (r.map PyData.int) (r.map PyData.int)) = true
    rw [h]
    show ((n == n) && true) = true
    rw [beq_self_eq_true]
    rfl
theorem eqv_ints (ns : List Int) : PyData.eqv (dInts ns) (dInts ns) = true := eqv_all ns
/-- an if whose test is known -/
theorem if_no {c : Bool} {A B : Prop} (h : c = true) (q : B) : if (!c) = true then A else B := by
  rw [h]
  exact q
theorem if_yes {c : Bool} {A B : Prop} (h : c = true) (q : A) : if c = true then A else B := by
  rw [h]
  exact q
theorem if_not {c : Bool} {A B : Prop} (h : c = false) (q : B) : if c = true then A else B := by
  rw [h]
  exact q
theorem ty_int {K : PySem.W.Frag} {H : Hp} {i : Int} : TyX K H (.int i) (.type "int") := .base (.int i)
theorem ty_lst {K : PySem.W.Frag} {H : Hp} {a : Addr} {xs : List V} (h : H a = some (.lst xs)) : TyX K H (.ref a) (.type "list") := .base (.lst h)
/-- a list that stood where p was free stands when p's object is laid or changed -/
theorem SqL.upd0 {K : PySem.W.Frag} {H0 H : Hp} {a p : Addr} {xs : List V} {o : HO} (h0 : SqL K H0 a xs) (hp : H0 p = none) (h : SqL K H a xs) : SqL K (upd H p o) a xs := by
  rcases h0 with h0 | h0
  · have n : a ≠ p := by
      rcases h0 with h0 | ⟨u, h0⟩
      · exact ne_of_none h0 hp
      · exact ne_of_none h0 hp
    exact SqL.but h (But.upd (d := p)) (.inl n)
  · exact .inr h0
theorem rep_flat (n : Nat) (i : Int) : (List.replicate n [V.int i]).flatten = (List.replicate n i).map V.int := by
  induction n with
  | zero => rfl
  | succ n ih =>
    rw [List.replicate_succ, List.replicate_succ, List.flatten_cons, ih]
    rfl
/-- an instance that is made: what stood, stands -/
theorem made_same {H H' : Hp} {x dx : Addr} {u v : HO} (h1 : H x = none) (h2 : H dx = none) (b : But x (upd (upd H dx u) x v) H') : Same H H' := fun c o e => by
  have n1 : c ≠ x := ne_of_none e h1
  have n2 : c ≠ dx := ne_of_none e h2
  refine b c o n1 ?_
  rw [upd_ne n1, upd_ne n2]
  exact e
theorem made_free {H : Hp} {x dx l : Addr} {u v : HO} (h1 : H x = none) (h2 : H dx = none) (h : upd (upd H dx u) x v l = none) : H l = none := by
  cases q : H l with
  | none => rfl
  | some o =>
    have n1 : l ≠ x := ne_of_none q h1
    have n2 : l ≠ dx := ne_of_none q h2
    rw [upd_ne n1, upd_ne n2, q] at h
    cases h
/-- a list that stood where p was free stands whatever p's object becomes -/
theorem SqL.other {K : PySem.W.Frag} {H0 H H' : Hp} {a p : Addr} {xs : List V} (h0 : SqL K H0 a xs) (hp : H0 p = none) (h : SqL K H a xs) (s : But p H H') : SqL K H' a xs := by
  rcases h0 with h0 | h0
  · have n : a ≠ p := by
      rcases h0 with h0 | ⟨u, h0⟩
      · exact ne_of_none h0 hp
      · exact ne_of_none h0 hp
    exact SqL.but h s (.inl n)
  · exact .inr h0
end Sd

/-! words of mine for classes: a method, a call of the class -/
namespace Sd
open PySem L2
structure CalM (P : Program) (w : World) (K : PySem.W.Frag) (mg : Str → Option Value) (base : Heap) (CX : CXT) (k : Nat) (C : Addr) (m : Str) (ps : List Str) (sp : Sp) : Prop where
  cl : Cls K C
  ex : ∃ f fd, Meth K C m f ∧ Binds K fd ps [] ∧ FnOk P w K mg base CX k f fd ps sp
structure CalI (P : Program) (w : World) (K : PySem.W.Frag) (mg : Str → Option Value) (base : Heap) (CX : CXT) (k : Nat) (x : Str) (C : Addr) (ps : List Str) (sp : Sp) : Prop where
  at_ : mg x = some (.ref C)
  ex : ∃ f fd, Mk K C f ∧ Binds K fd ps [] ∧ FnOk P w K mg base CX k f fd ps sp
section
variable {P : Program} {w : World} {K : PySem.W.Frag} {mg : Str → Option Value} {base : Heap} {CX : CXT} {k : Nat} {x q m : Str} {st : Stmt} {f C : Addr} {fd : FuncData} {ps : List Str} {sp : Sp}
theorem CalM.mk' (_ : Fun K m q st f fd) (c : Cls K C) (h : Meth K C m f) (b : Binds K fd ps []) (G : FnOk P w K mg base CX k f fd ps sp) : CalM P w K mg base CX k C m ps sp := ⟨c, f, fd, h, b, G⟩
theorem CalI.mk' (_ : Fun K m q st f fd) (hm : mg x = some (.ref C)) (h : Mk K C f) (b : Binds K fd ps []) (G : FnOk P w K mg base CX k f fd ps sp) : CalI P w K mg base CX k x C ps sp := ⟨hm, f, fd, h, b, G⟩
end
section
variable {X : Cx} {CX : CXT} {k : Nat} {C : Addr} {ps : List Str} {sp : Sp} {E : XK} {ES : St → XK} {x m : Str} {p pos apos : Pos} {e o : Expr} {es : List Expr} {ta : TE} {t : TA}
/-- how the text's call of a method goes: the object, the method found, its arguments -/
abbrev Goes (X : Cx) (o : Expr) (m : Str) (es : List Expr) (apos pos : Pos) (pl : Sem Bool) : Prop :=
  eval (.Call (.Attribute o m apos) es [] pos) X.env =
    (eval o X.env >>= fun v => standAt apos.atName >>= fun _ => holding [v] (getMethod v m pl) >>= fun g => callWith pos g.1 g.2 (backTo pos (starEach es X.env)) (backToKw pos (keywordEach [] X.env)))
theorem pe_mt {pl : Sem Bool} (c : CalM X.prog X.w X.K X.mg X.base CX k C m ps sp) (hr : Room k X.A) (hx : Passes CX X E) (he : PE X o ta) (ha : PA X (e :: es) t)
    (hst : starEach (e :: es) X.env = (false, eval e X.env) :: starEach es X.env := by rfl) (hpl : (backTo pos (starEach es X.env)).any (·.1) = false := by rfl)
    (ht : Goes X o m (e :: es) apos pos pl := by rfl) : PE X (.Call (.Attribute o m apos) (e :: es) [] pos) (tMeth C m sp [] E ta t) := by
  obtain ⟨f, fd, hm, hb, F⟩ := c.ex
  exact pe_meth he c.cl hm F hr hb .nil hx ha hst hpl ht
theorem pe_mt0 {pl : Sem Bool} (c : CalM X.prog X.w X.K X.mg X.base CX k C m ps sp) (hr : Room k X.A) (hx : Passes CX X E) (he : PE X o ta)
    (ht : Goes X o m [] apos pos pl := by rfl) : PE X (.Call (.Attribute o m apos) [] [] pos) (tMeth C m sp [] E ta tNil) := by
  obtain ⟨f, fd, hm, hb, F⟩ := c.ex
  exact pe_meth0 he c.cl hm F hr hb .nil hx ht
/-- .. in a try: what is raised is wished for at the slots -/
def tMtS (C : Addr) (m : Str) (sp : Sp) (E : St → XK) (ta : TE) (t : TA) : TE := fun σ H Q =>
  ta σ H fun x H1 => ∃ a dx fs, x = .ref a ∧ H1 a = some (.ins C dx fs) ∧ fs.lookup m = none ∧ t σ H1 fun vs H2 => sp (x :: vs) H2 Q (E σ)
theorem pe_mtS {pl : Sem Bool} (c : CalM X.prog X.w X.K X.mg X.base CX k C m ps sp) (hr : Room k X.A) (hx : ∀ σ, PassesAt CX X σ (ES σ)) (he : PE X o ta) (ha : PA X (e :: es) t)
    (hst : starEach (e :: es) X.env = (false, eval e X.env) :: starEach es X.env := by rfl) (hpl : (backTo pos (starEach es X.env)).any (·.1) = false := by rfl)
    (ht : Goes X o m (e :: es) apos pos pl := by rfl) : PE X (.Call (.Attribute o m apos) (e :: es) [] pos) (tMtS C m sp ES ta t) := by
  obtain ⟨f, fd, hm, hb, F⟩ := c.ex
  refine ⟨fun pins s σ H R I h => PySem.W.methodCall_KW (pl := pl) (thn (he.run pins s σ H _ I h) fun u s1 hh => ?_) ht⟩
  obtain ⟨y, H1, I1, ry, a, dx, fs, rfl, hins, hno, q⟩ := hh
  cases (show u = Value.ref a from ry)
  refine getmeth_ok I1 hins c.cl hm hno (PySem.W.callWith_K (first := [.ref a]) (h₀ := X.base) I.ok.mod.kin hm.kp (thn (ha.run pos pins s1 σ H1 _ I1 q) fun us s2 h2 => ?_) hst hpl)
  obtain ⟨vs, H2, I2, rv, q2⟩ := h2
  exact ⟨I2.kIn, run_fnS (us := .ref a :: us) (vs := .ref a :: vs) F hr hb (hx σ) I2 (.cons rfl rv) q2⟩
theorem pe_mk (c : CalI X.prog X.w X.K X.mg X.base CX k x C ps sp) (hr : Room (k + 1) X.A) (hx : Passes CX X E) (ha : PA X (e :: es) t) (hg : Gl X x := by rfl)
    (hdb : (x == ("__debug__" : Str)) = false := by decide) (he : starEach (e :: es) X.env = (false, eval e X.env) :: starEach es X.env := by rfl) (hpl : (backTo pos (starEach es X.env)).any (·.1) = false := by rfl) :
    PE X (.Call (.Name x p) (e :: es) [] pos) (tMake C sp [] E t) := by
  obtain ⟨f, fd, M, hb, F⟩ := c.ex
  exact pe_make M F hr hg c.at_ hb .nil hx ha hdb he hpl
theorem pe_mk0 (c : CalI X.prog X.w X.K X.mg X.base CX k x C ps sp) (hr : Room (k + 1) X.A) (hx : Passes CX X E) (hg : Gl X x := by rfl)
    (hdb : (x == ("__debug__" : Str)) = false := by decide) : PE X (.Call (.Name x p) [] [] pos) (tMake C sp [] E tNil) := by
  obtain ⟨f, fd, M, hb, F⟩ := c.ex
  exact pe_make0 M F hr hg c.at_ hb .nil hx hdb
end
end Sd

/-! the draws of a script: _law_cell, _law_dice, _law_off -/
namespace Sd
open PySem L2
theorem b01 (c : Bool) : -(2 ^ 64) < (if c = true then (1 : Int) else 0) ∧ (if c = true then (1 : Int) else 0) < 2 ^ 64 := by
  cases c with
  | true =>
    rw [if_pos rfl]
    decide
  | false =>
    rw [if_neg Bool.false_ne_true]
    decide
def spCell (K : PySem.W.Frag) : Sp := fun vs H Q _ => ∃ (a : Addr) (ns : List Int) (k : Int), vs = [.ref a, .int k] ∧ 0 ≤ k ∧ SqL K H a (ns.map V.int) ∧ ∀ v : Int, Q (.int v) H
/-- what the draws go on with stands at d: four things, the second one the script's list -/
def Dice (H : Hp) (d a : Addr) : Prop := ∃ n k g : Int, H d = some (.lst [.int n, .ref a, .int k, .int g])
theorem Dice.but {H H' : Hp} {d a e : Addr} (h : Dice H d a) (b : But e H H') (n : d ≠ e) : Dice H' d a := by
  obtain ⟨x, k, g, h⟩ := h
  exact ⟨x, k, g, b _ _ n h⟩
theorem Dice.same {H H' : Hp} {d a : Addr} (h : Dice H d a) (s : Same H H') : Dice H' d a := by
  obtain ⟨x, k, g, h⟩ := h
  exact ⟨x, k, g, s _ _ h⟩
theorem Dice.some {H : Hp} {d a : Addr} (h : Dice H d a) : ∃ u, H d = some u := by
  obtain ⟨x, k, g, h⟩ := h
  exact ⟨_, h⟩
theorem Dice.ne {H : Hp} {d a p : Addr} (h : Dice H d a) (n : H p = none) : d ≠ p := by
  obtain ⟨x, k, g, h⟩ := h
  exact ne_of_none h n
/-- the script stands, whatever the draws' list becomes -/
theorem Dice.seq {K : PySem.W.Frag} {H H' : Hp} {d a : Addr} {ns : List Int} (h : Dice H d a) (b : But d H H') (s : SqL K H a (ns.map V.int)) : SqL K H' a (ns.map V.int) := by
  obtain ⟨n, k, g, h⟩ := h
  refine Sd.SqL.keep s b h (fun e => ?_)
  cases ns with
  | nil => cases e
  | cons x r =>
    cases r with
    | nil => cases e
    | cons y r =>
      have e2 := (List.cons.inj (List.cons.inj e).2).1
      cases e2
theorem Dice.ne_ints {H : Hp} {d a l : Addr} {xs : List Int} (h : Dice H d a) (hl : H l = Option.some (.lst (xs.map V.int))) : l ≠ d := fun z => by
  obtain ⟨n, k, g, h⟩ := h
  rw [z, h] at hl
  have e := (HO.lst.inj (Option.some.inj hl))
  cases xs with
  | nil => cases e
  | cons x r =>
    cases r with
    | nil => cases e
    | cons y r => cases (List.cons.inj (List.cons.inj e).2).1
def spDice (K : PySem.W.Frag) : Sp := fun vs H Q _ => ∃ (a : Addr) (ns : List Int) (k : Int), vs = [.ref a, .int k] ∧ 0 ≤ k ∧ SqL K H a (ns.map V.int) ∧
  ∀ (p : Addr) (H' : Hp), H p = none → Same H H' → But p H H' → Dice H' p a → (∀ b, b ≠ p → H' b = H b) → Q (.ref p) H'
def spOff (K : PySem.W.Frag) : Sp := fun vs H Q _ => ∃ (d a : Addr) (ns : List Int) (m : Int), vs = [.ref d, .int m] ∧ Dice H d a ∧ SqL K H a (ns.map V.int) ∧ 0 < m ∧ m < 1073741824 ∧
  ∀ (r : Int) (H' : Hp), 0 ≤ r → r < m → Dice H' d a → (∀ b, b ≠ d → H' b = H b) → Q (.int r) H'
end Sd

/-! deeds, answers, the five things: plain words -/
namespace Sd
inductive Deed
  | one | count | set (n : Int) | look | add (n : Int) | sum | rais (n : Int) | top | give (n : Int) | take
  deriving DecidableEq
namespace Deed
/-- the number is one that a deed may have -/
def ok : Deed → Prop
  | set n => 0 ≤ n ∧ n ≤ 999 | add n => 0 ≤ n ∧ n ≤ 999 | rais n => 0 ≤ n ∧ n ≤ 999 | give n => 0 ≤ n ∧ n ≤ 999
  | _ => True
def most : Deed → Int → Int
  | one, _ => 1 | count, m => m | give _, m => m + 1 | take, m => 2 * m
  | look, m => m * (m + 1) | sum, m => m * (m + 1) | top, m => m * (m + 1)
  | set _, m => m * (m + 1) + 1 | add _, m => m * (m + 1) + 1 | rais _, m => m * (m + 1) + 1
def thing : Deed → Nat
  | one | count => 0
  | set _ | look => 1
  | add _ | sum => 2
  | rais _ | top => 3
  | give _ | take => 4
/-- it changes its thing by a put -/
def puts : Deed → Bool
  | one | set _ | add _ | rais _ | give _ => true
  | _ => false
/-- it tells of a thing without takes -/
def tells : Deed → Bool
  | count | look | sum | top => true
  | _ => false
end Deed
inductive Ans
  | non | int (n : Int) | view (cs : List Int)
  deriving DecidableEq
/-- the greatest of the list, 0 at the least -/
def top0 (l : List Int) : Int := l.foldl (fun a b => if b > a then b else a) 0
/-- the program's five things -/
structure St5 where
  ones : Int
  cells : List Int
  added : Int
  top : Int
  line : List Int
  deriving DecidableEq
def St5.first (m : Nat) : St5 := ⟨0, List.replicate m 0, 0, 0, []⟩
def St5.ans (s : St5) : Deed → Ans
  | .count => .int s.ones
  | .look => .view s.cells
  | .sum => .int s.added
  | .top => .int s.top
  | .take => match s.line with
    | [] => .non
    | g :: _ => .int g
  | _ => .non
def St5.behind (s : St5) (h : Nat) : Deed → St5
  | .one => { s with ones := s.ones + 1 }
  | .set n => { s with cells := s.cells.set h n }
  | .add n => { s with added := s.added + n }
  | .rais n => { s with top := if n > s.top then n else s.top }
  | .give n => { s with line := s.line ++ [n] }
  | .take => { s with line := s.line.drop 1 }
  | _ => s
/-- sizes that the rules want -/
structure St5.Ok (s : St5) (m : Nat) : Prop where
  cells : s.cells.length = m
  line : s.line.length ≤ 10000
end Sd

/-! the law's own five things, plain words -/
namespace Sd
structure L5 where
  ones : Int
  cells : List Int
  adds : List Int
  tops : List Int
  line : List Int
def L5.first (m : Nat) : L5 := ⟨0, List.replicate m 0, List.replicate m 0, List.replicate m 0, []⟩
def L5.ans (s : L5) : Deed → Ans
  | .count => .int s.ones
  | .look => .view s.cells
  | .sum => .int s.adds.sum
  | .top => .int (top0 s.tops)
  | .take => match s.line with
    | [] => .non
    | g :: _ => .int g
  | _ => .non
def L5.behind (s : L5) (h : Nat) : Deed → L5
  | .one => { s with ones := s.ones + 1 }
  | .set n => { s with cells := s.cells.set h n }
  | .add n => { s with adds := s.adds.set h (s.adds.getD h 0 + n) }
  | .rais n => { s with tops := s.tops.set h (if n > s.tops.getD h 0 then n else s.tops.getD h 0) }
  | .give n => { s with line := s.line ++ [n] }
  | .take => { s with line := s.line.drop 1 }
  | _ => s
structure L5.Ok (s : L5) (m : Nat) : Prop where
  cells : s.cells.length = m
  adds : s.adds.length = m
  tops : s.tops.length = m
  tops0 : ∀ x ∈ s.tops, 0 ≤ x
  line : s.line.length ≤ 10000
/-- the two ways to hold them -/
structure Sim (s : St5) (l : L5) : Prop where
  ones : s.ones = l.ones
  cells : s.cells = l.cells
  added : s.added = l.adds.sum
  top : s.top = top0 l.tops
  line : s.line = l.line
theorem foldl_max (l : List Int) : ∀ a : Int, (∀ x ∈ l, x ≤ l.foldl (fun a b => if b > a then b else a) a) ∧ a ≤ l.foldl (fun a b => if b > a then b else a) a ∧ (l.foldl (fun a b => if b > a then b else a) a = a ∨ l.foldl (fun a b => if b > a then b else a) a ∈ l) := by
  induction l with
  | nil => exact fun a => ⟨fun x h => (List.not_mem_nil h).elim, Int.le_refl _, Or.inl rfl⟩
  | cons y l ih =>
    intro a
    obtain ⟨h1, h2, h3⟩ := ih (if y > a then y else a)
    rw [List.foldl_cons]
    refine ⟨fun x hx => ?_, ?_, ?_⟩
    · rcases List.mem_cons.mp hx with rfl | hx
      · refine Int.le_trans ?_ h2
        split <;> omega
      · exact h1 x hx
    · refine Int.le_trans ?_ h2
      split <;> omega
    · rcases h3 with h3 | h3
      · rw [h3]
        split
        · exact .inr List.mem_cons_self
        · exact .inl rfl
      · exact .inr (List.mem_cons_of_mem _ h3)
theorem top0_of {l : List Int} (h0 : ∀ x ∈ l, 0 ≤ x) {m : Int} (hm : m ∈ l) (h : ∀ y, y ∈ l → y ≤ m) : m = top0 l := by
  obtain ⟨h1, h2, h3⟩ := foldl_max l 0
  have e1 := h1 m hm
  rcases h3 with h3 | h3
  · have := h0 m hm
    show m = List.foldl _ 0 l
    omega
  · have := h _ h3
    show m = List.foldl _ 0 l
    omega
theorem sum_set (l : List Int) : ∀ (h : Nat) (n : Int), h < l.length → (l.set h (l.getD h 0 + n)).sum = l.sum + n := by
  induction l with
  | nil => intro h n hh; exact absurd hh (Nat.not_lt_zero _)
  | cons x l ih =>
    intro h n hh
    cases h with
    | zero =>
      rw [List.set_cons_zero, List.sum_cons, List.sum_cons, List.getD_cons_zero]
      omega
    | succ h =>
      rw [List.set_cons_succ, List.sum_cons, List.sum_cons, List.getD_cons_succ, ih h n (by rw [List.length_cons] at hh; omega)]
      omega
theorem le_top0 {l : List Int} {x : Int} (h : x ∈ l) : x ≤ top0 l := (foldl_max l 0).1 x h
theorem top0_nn (l : List Int) : 0 ≤ top0 l := (foldl_max l 0).2.1
theorem top0_le {l : List Int} {m : Int} (h0 : 0 ≤ m) (h : ∀ x ∈ l, x ≤ m) : top0 l ≤ m := by
  rcases (foldl_max l 0).2.2 with e | e
  · show List.foldl _ 0 l ≤ m
    omega
  · exact h _ e
theorem top0_setz {l : List Int} (h : Nat) (n z : Int) (hn : 0 ≤ n) (hh : h < l.length) (z1 : n ≤ z) (z2 : l.getD h 0 ≤ z) (z3 : z = n ∨ z = l.getD h 0) :
    top0 (l.set h z) = if n > top0 l then n else top0 l := by
  have hg : l.getD h 0 ∈ l := by
    rw [List.getD_eq_getElem?_getD, List.getElem?_eq_getElem hh]
    exact List.getElem_mem hh
  have hg1 := le_top0 hg
  have hz : z ∈ l.set h z := List.mem_set hh _
  have hz1 := le_top0 hz
  have nn := top0_nn l
  apply Int.le_antisymm
  · refine top0_le ?_ fun x hx => ?_
    · split <;> omega
    · rcases List.mem_or_eq_of_mem_set hx with e | e
      · have := le_top0 e
        split <;> omega
      · rw [e]
        split <;> omega
  · split
    · omega
    · rcases (foldl_max l 0).2.2 with e | e
      · have e' : top0 l = 0 := e
        have := top0_nn (l.set h z)
        omega
      · have e' : top0 l ∈ l := e
        obtain ⟨j, hj, ej⟩ := List.mem_iff_getElem.mp e'
        by_cases c : j = h
        · subst c
          have e2 : l.getD j 0 = top0 l := by rw [List.getD_eq_getElem?_getD, List.getElem?_eq_getElem hj]; exact ej
          omega
        · have hm : l[j] ∈ l.set h z := by
            refine List.mem_iff_getElem.mpr ⟨j, by rw [List.length_set]; exact hj, ?_⟩
            rw [List.getElem_set_ne (Ne.symm c)]
          have := le_top0 hm
          omega
theorem top0_set {l : List Int} (h : Nat) (n : Int) (hn : 0 ≤ n) (hh : h < l.length) :
    top0 (l.set h (if n > l.getD h 0 then n else l.getD h 0)) = if n > top0 l then n else top0 l := by
  refine top0_setz h n _ hn hh ?_ ?_ ?_
  · split <;> omega
  · split <;> omega
  · split
    · exact .inl rfl
    · exact .inr rfl
theorem Sim.ans {s : St5} {l : L5} (h : Sim s l) (d : Deed) : s.ans d = l.ans d := by
  cases d with
  | count => exact congrArg Ans.int h.ones
  | look => exact congrArg Ans.view h.cells
  | sum => exact congrArg Ans.int h.added
  | top => exact congrArg Ans.int h.top
  | take =>
    have e := h.line
    unfold St5.ans L5.ans
    rw [e]
  | _ => rfl
theorem Sim.behind {s : St5} {l : L5} {m h : Nat} {d : Deed} (q : Sim s l) (o : l.Ok m) (hh : h < m) (hd : d.ok) : Sim (s.behind h d) (l.behind h d) := by
  obtain ⟨e1, e2, e3, e4, e5⟩ := q
  cases d with
  | one => exact ⟨by show s.ones + 1 = l.ones + 1; rw [e1], e2, e3, e4, e5⟩
  | set n => exact ⟨e1, by show s.cells.set h n = l.cells.set h n; rw [e2], e3, e4, e5⟩
  | add n => exact ⟨e1, e2, by show s.added + n = _; rw [e3]; exact (sum_set l.adds h n (by rw [o.adds]; exact hh)).symm, e4, e5⟩
  | rais n => exact ⟨e1, e2, e3, by show (if n > s.top then n else s.top) = _; rw [e4]; exact (top0_set h n hd.1 (by rw [o.tops]; exact hh)).symm, e5⟩
  | give n => exact ⟨e1, e2, e3, e4, by show s.line ++ [n] = l.line ++ [n]; rw [e5]⟩
  | take => exact ⟨e1, e2, e3, e4, by show s.line.drop 1 = l.line.drop 1; rw [e5]⟩
  | _ => exact ⟨e1, e2, e3, e4, e5⟩
theorem L5.Ok.behind {l : L5} {m h : Nat} {d : Deed} (o : l.Ok m) (hd : d.ok) (hl : l.line.length < 10000) : (l.behind h d).Ok m := by
  obtain ⟨o1, o2, o3, o4, o5⟩ := o
  cases d with
  | set n => exact ⟨by show (l.cells.set h n).length = m; rw [List.length_set, o1], o2, o3, o4, o5⟩
  | add n => exact ⟨o1, by show (l.adds.set h _).length = m; rw [List.length_set, o2], o3, o4, o5⟩
  | rais n =>
    refine ⟨o1, o2, by show (l.tops.set h _).length = m; rw [List.length_set, o3], fun x hx => ?_, o5⟩
    rcases List.mem_or_eq_of_mem_set hx with e | e
    · exact o4 x e
    · rw [e]
      have := hd.1
      split <;> omega
  | give n => exact ⟨o1, o2, o3, o4, by show (l.line ++ [n]).length ≤ 10000; rw [List.length_append]; exact hl⟩
  | take => exact ⟨o1, o2, o3, o4, by show (l.line.drop 1).length ≤ 10000; rw [List.length_drop]; omega⟩
  | _ => exact ⟨o1, o2, o3, o4, o5⟩
theorem L5.len_behind (l : L5) (h : Nat) (d : Deed) : (l.behind h d).line.length ≤ l.line.length + 1 := by
  cases d with
  | give n => show (l.line ++ [n]).length ≤ _; rw [List.length_append]; exact Nat.le_refl _
  | take => show (l.line.drop 1).length ≤ _; rw [List.length_drop]; omega
  | _ => exact Nat.le_succ _
theorem sum_zeros (m : Nat) : (List.replicate m (0 : Int)).sum = 0 := by
  induction m with
  | zero => rfl
  | succ m ih => rw [List.replicate_succ, List.sum_cons, ih]; rfl
theorem top0_zeros (m : Nat) : top0 (List.replicate m (0 : Int)) = 0 :=
  Int.le_antisymm (top0_le (Int.le_refl 0) fun x hx => by rw [List.eq_of_mem_replicate hx]; exact Int.le_refl 0) (top0_nn _)
theorem Sim.first (m : Nat) : Sim (St5.first m) (L5.first m) := ⟨rfl, rfl, (sum_zeros m).symm, (top0_zeros m).symm, rfl⟩
theorem L5.Ok.first (m : Nat) : (L5.first m).Ok m := ⟨List.length_replicate, List.length_replicate, List.length_replicate, fun x hx => by rw [List.eq_of_mem_replicate hx]; exact Int.le_refl 0, Nat.zero_le _⟩
end Sd

/-! deeds, and what tells of them -/
namespace Sd
open PySem L2
namespace Deed
def word : Deed → Str
  | one => "one" | count => "count" | set _ => "set" | look => "look" | add _ => "add" | sum => "sum" | rais _ => "raise" | top => "top" | give _ => "give" | take => "take"
def vals : Deed → List V
  | set n => [.str "set", .int n] | add n => [.str "add", .int n] | rais n => [.str "raise", .int n] | give n => [.str "give", .int n]
  | one => [.str "one"] | count => [.str "count"] | look => [.str "look"] | sum => [.str "sum"] | top => [.str "top"] | take => [.str "take"]
theorem at0 : ∀ d : Deed, atI d.vals (0 : Int) = some (.str d.word)
  | set _ | add _ | rais _ | give _ | one | count | look | sum | top | take => atI_nat (j := 0) rfl
end Deed
def words10 : List Str := ["one", "count", "set", "look", "add", "sum", "raise", "top", "give", "take"]
theorem word_of {w : Str} (h : w ∈ words10) : ∃ d : Deed, d.word = w := by
  simp only [words10, List.mem_cons, List.not_mem_nil, or_false] at h
  rcases h with rfl | rfl | rfl | rfl | rfl | rfl | rfl | rfl | rfl | rfl
  · exact ⟨.one, rfl⟩
  · exact ⟨.count, rfl⟩
  · exact ⟨.set 0, rfl⟩
  · exact ⟨.look, rfl⟩
  · exact ⟨.add 0, rfl⟩
  · exact ⟨.sum, rfl⟩
  · exact ⟨.rais 0, rfl⟩
  · exact ⟨.top, rfl⟩
  · exact ⟨.give 0, rfl⟩
  · exact ⟨.take, rfl⟩
theorem strs_got {ws : List Str} {j : Nat} {y : V} (h : (ws.map V.str)[j]? = some y) : ∃ v, ws[j]? = some v ∧ y = .str v := by
  rw [List.getElem?_map] at h
  cases e : ws[j]? with
  | none =>
    rw [e] at h
    cases h
  | some v =>
    rw [e] at h
    exact ⟨v, rfl, (Option.some.inj h).symm⟩
def spLDeed (K : PySem.W.Frag) : Sp := fun vs H Q _ => ∃ (d a : Addr) (ns : List Int) (w : Str), vs = [.ref d, .str w] ∧ w ∈ words10 ∧ Dice H d a ∧ SqL K H a (ns.map V.int) ∧
  ∀ (p : Addr) (H' : Hp) (dd : Deed), dd.word = w → dd.ok → H p = none → H' p = some (.tup dd.vals) → Dice H' d a → But d H H' → Q (.ref p) H'
theorem two_at {n m : Int} {r : Int} (h0 : 0 ≤ r) (h1 : r < 2) : ∃ z, atI [V.int n, V.int m] r = some (V.int z) ∧ (z = n ∨ z = m) := by
  have h : r = 0 ∨ r = 1 := by omega
  rcases h with rfl | rfl
  · exact ⟨n, atI_nat (j := 0) rfl, .inl rfl⟩
  · exact ⟨m, atI_nat (j := 1) rfl, .inr rfl⟩
end Sd

/-! what the five things hold, and what a deed done at once answers -/
namespace Sd
open PySem L2
def Ans.At (H : Hp) (v : V) : Ans → Prop
  | .non => v = .non
  | .int n => v = .int n
  | .view cs => ∃ p, v = .ref p ∧ H p = some (.tup (cs.map V.int))
theorem Ans.At.same {H H' : Hp} {v : V} {a : Ans} (h : a.At H v) (s : Same H H') : a.At H' v := by
  cases a with
  | non => exact h
  | int n => exact h
  | view cs =>
    obtain ⟨p, e, hp⟩ := h
    exact ⟨p, e, s _ _ hp⟩
def St5.At (H : Hp) (v : V) (s : St5) : Prop := ∃ t pc pl, v = .ref t ∧ H t = some (.tup [.int s.ones, .ref pc, .int s.added, .int s.top, .ref pl]) ∧ H pc = some (.tup (s.cells.map V.int)) ∧ H pl = some (.tup (s.line.map V.int))
theorem St5.At.same {H H' : Hp} {v : V} {s : St5} (h : s.At H v) (e : Same H H') : s.At H' v := by
  obtain ⟨t, pc, pl, rfl, h1, h2, h3⟩ := h
  exact ⟨t, pc, pl, rfl, e _ _ h1, e _ _ h2, e _ _ h3⟩
def DeedAt (H : Hp) (p : Addr) (d : Deed) : Prop := H p = some (.tup d.vals)
def spFirst : Sp := fun vs H Q _ => ∃ m : Nat, vs = [.int m] ∧ 1 ≤ m ∧ m ≤ 100 ∧ ∀ v H', Same H H' → (St5.first m).At H' v → Q v H'
def spAnsIn : Sp := fun vs H Q _ => ∃ (v : V) (p : Addr) (s : St5) (d : Deed), vs = [v, .ref p] ∧ s.At H v ∧ DeedAt H p d ∧ s.line.length ≤ 10000 ∧ ∀ u, (s.ans d).At H u → Q u H
def spBehind : Sp := fun vs H Q _ => ∃ (v : V) (p : Addr) (s : St5) (h m : Nat) (d : Deed), vs = [v, .int h, .ref p] ∧ s.At H v ∧ DeedAt H p d ∧ s.Ok m ∧ m ≤ 100 ∧ h < m ∧ ∀ u H', Same H H' → (s.behind h d).At H' u → Q u H'
end Sd

/-! the law's own five things -/
namespace Sd
open PySem L2
/-- but for the objects of F, what stood stands -/
def Off (F : List Addr) (H H' : Hp) : Prop := ∀ b o, b ∉ F → H b = some o → H' b = some o
theorem Off.refl (F : List Addr) (H : Hp) : Off F H H := fun _ _ _ h => h
theorem Off.trans {F : List Addr} {H H1 H2 : Hp} (a : Off F H H1) (b : Off F H1 H2) : Off F H H2 := fun c o n h => b c o n (a c o n h)
theorem Off.of_same {F : List Addr} {H H' : Hp} (s : Same H H') : Off F H H' := fun b o _ h => s b o h
theorem Off.upd {F : List Addr} {H : Hp} {p : Addr} {o : HO} (h : p ∈ F) : Off F H (upd H p o) := fun b u n e => by
  rw [upd_ne (fun z => n (by rw [z]; exact h))]
  exact e
theorem Off.at_ {F : List Addr} {H H' : Hp} (s : Off F H H') {b : Addr} {o : HO} (n : b ∉ F) (h : H b = some o) : H' b = some o := s b o n h
theorem Off.same {F : List Addr} {H H' : Hp} (s : Off F H H') (h : ∀ x ∈ F, H x = none) : Same H H' := fun b o e => s b o (fun m => by rw [h b m] at e; cases e) e
theorem free_ne {F : List Addr} {H : Hp} {x : Addr} {o : HO} (h : ∀ y ∈ F, H y = none) (hx : H x = some o) : x ∉ F := fun m => by
  rw [h x m] at hx
  cases hx
/-- the dict and its four lists: F = [d, set, add, raise, line] -/
structure L5.At (H : Hp) (d a1 a2 a3 a4 : Addr) (s : L5) : Prop where
  d : H d = some (.dK [(Sum.inr "ones", .int s.ones), (Sum.inr "set", .ref a1), (Sum.inr "add", .ref a2), (Sum.inr "raise", .ref a3), (Sum.inr "line", .ref a4)])
  c1 : H a1 = some (.lst (s.cells.map V.int))
  c2 : H a2 = some (.lst (s.adds.map V.int))
  c3 : H a3 = some (.lst (s.tops.map V.int))
  c4 : H a4 = some (.lst (s.line.map V.int))
  n : a1 ≠ a2 ∧ a1 ≠ a3 ∧ a1 ≠ a4 ∧ a2 ≠ a3 ∧ a2 ≠ a4 ∧ a3 ≠ a4
theorem L5.At.nd {H : Hp} {d a1 a2 a3 a4 : Addr} {s : L5} (h : s.At H d a1 a2 a3 a4) : d ≠ a1 ∧ d ≠ a2 ∧ d ≠ a3 ∧ d ≠ a4 :=
  ⟨ne_of h.d h.c1 (by intro z; cases z), ne_of h.d h.c2 (by intro z; cases z), ne_of h.d h.c3 (by intro z; cases z), ne_of h.d h.c4 (by intro z; cases z)⟩
theorem L5.At.off {H H' : Hp} {d a1 a2 a3 a4 : Addr} {s : L5} {F : List Addr} (h : s.At H d a1 a2 a3 a4) (o : Off F H H') (n : ∀ x ∈ [d, a1, a2, a3, a4], x ∉ F) : s.At H' d a1 a2 a3 a4 :=
  ⟨o _ _ (n _ (by simp)) h.d, o _ _ (n _ (by simp)) h.c1, o _ _ (n _ (by simp)) h.c2, o _ _ (n _ (by simp)) h.c3, o _ _ (n _ (by simp)) h.c4, h.n⟩
theorem L5.At.set1 {H : Hp} {d a1 a2 a3 a4 : Addr} {s : L5} (h : s.At H d a1 a2 a3 a4) (cs : List Int) : ({ s with cells := cs } : L5).At (upd H a1 (.lst (cs.map V.int))) d a1 a2 a3 a4 := by
  obtain ⟨n12, n13, n14, n23, n24, n34⟩ := h.n
  obtain ⟨k1, k2, k3, k4⟩ := h.nd
  exact ⟨by rw [upd_ne k1]; exact h.d, upd_same, by rw [upd_ne n12.symm]; exact h.c2, by rw [upd_ne n13.symm]; exact h.c3, by rw [upd_ne n14.symm]; exact h.c4, h.n⟩
theorem L5.At.set2 {H : Hp} {d a1 a2 a3 a4 : Addr} {s : L5} (h : s.At H d a1 a2 a3 a4) (cs : List Int) : ({ s with adds := cs } : L5).At (upd H a2 (.lst (cs.map V.int))) d a1 a2 a3 a4 := by
  obtain ⟨n12, n13, n14, n23, n24, n34⟩ := h.n
  obtain ⟨k1, k2, k3, k4⟩ := h.nd
  exact ⟨by rw [upd_ne k2]; exact h.d, by rw [upd_ne n12]; exact h.c1, upd_same, by rw [upd_ne n23.symm]; exact h.c3, by rw [upd_ne n24.symm]; exact h.c4, h.n⟩
theorem L5.At.set3 {H : Hp} {d a1 a2 a3 a4 : Addr} {s : L5} (h : s.At H d a1 a2 a3 a4) (cs : List Int) : ({ s with tops := cs } : L5).At (upd H a3 (.lst (cs.map V.int))) d a1 a2 a3 a4 := by
  obtain ⟨n12, n13, n14, n23, n24, n34⟩ := h.n
  obtain ⟨k1, k2, k3, k4⟩ := h.nd
  exact ⟨by rw [upd_ne k3]; exact h.d, by rw [upd_ne n13]; exact h.c1, by rw [upd_ne n23]; exact h.c2, upd_same, by rw [upd_ne n34.symm]; exact h.c4, h.n⟩
theorem L5.At.set4 {H : Hp} {d a1 a2 a3 a4 : Addr} {s : L5} (h : s.At H d a1 a2 a3 a4) (cs : List Int) : ({ s with line := cs } : L5).At (upd H a4 (.lst (cs.map V.int))) d a1 a2 a3 a4 := by
  obtain ⟨n12, n13, n14, n23, n24, n34⟩ := h.n
  obtain ⟨k1, k2, k3, k4⟩ := h.nd
  exact ⟨by rw [upd_ne k4]; exact h.d, by rw [upd_ne n14]; exact h.c1, by rw [upd_ne n24]; exact h.c2, by rw [upd_ne n34]; exact h.c3, upd_same, h.n⟩
theorem L5.At.setD {H : Hp} {d a1 a2 a3 a4 : Addr} {s : L5} (h : s.At H d a1 a2 a3 a4) (n : Int) :
    ({ s with ones := n } : L5).At (upd H d (.dK [(Sum.inr "ones", .int n), (Sum.inr "set", .ref a1), (Sum.inr "add", .ref a2), (Sum.inr "raise", .ref a3), (Sum.inr "line", .ref a4)])) d a1 a2 a3 a4 := by
  obtain ⟨k1, k2, k3, k4⟩ := h.nd
  exact ⟨upd_same, by rw [upd_ne k1.symm]; exact h.c1, by rw [upd_ne k2.symm]; exact h.c2, by rw [upd_ne k3.symm]; exact h.c3, by rw [upd_ne k4.symm]; exact h.c4, h.n⟩
def spLPlain : Sp := fun vs H Q _ => ∃ m : Nat, vs = [.int m] ∧ m ≤ 100 ∧ ∀ d a1 a2 a3 a4 H', (∀ x ∈ [d, a1, a2, a3, a4], H x = none) → Same H H' → (L5.first m).At H' d a1 a2 a3 a4 → Q (.ref d) H'
def spAtOnce : Sp := fun vs H Q _ => ∃ (d a1 a2 a3 a4 p : Addr) (s : L5) (h m : Nat) (dd : Deed), vs = [.ref d, .int h, .ref p] ∧ s.At H d a1 a2 a3 a4 ∧ DeedAt H p dd ∧ s.Ok m ∧ 1 ≤ m ∧ h < m ∧ dd.ok ∧ s.line.length < 10000 ∧
  ∀ u H', (s.ans dd).At H' u → (s.behind h dd).At H' d a1 a2 a3 a4 → Off [d, a1, a2, a3, a4] H H' → Q u H'
end Sd
namespace Sd
open PySem L2
def spSameF : Sp := fun vs H Q _ => ∃ (u : V) (a : Ans), vs = [u, u] ∧ a.At H u ∧ (∀ cs, a ≠ .view cs) ∧ Q (.bl true) H
def spSame : Sp := fun vs H Q _ => ∃ (u v : V) (a : Ans), vs = [u, v] ∧ a.At H u ∧ a.At H v ∧ ∀ H', Same H H' → Q (.bl true) H'
def spWords : Sp := fun vs H Q _ => vs = [] ∧ ∀ p H', H p = none → Same H H' → H' p = some (.lst (words10.map V.str)) → Q (.ref p) H'
/-! the program's Plain -/
abbrev fsS (v : V) : List (Str × V) := [(("_state" : Str), v)]
theorem fsS_no {f : Str} (v : V) (h : ¬ f = "_state") : (fsS v).lookup f = none := by
  have hb : (f == ("_state" : Str)) = false := by
    cases e : f == ("_state" : Str) with
    | false => rfl
    | true => exact absurd (beq_iff_eq.mp e) h
  show List.lookup f [(("_state" : Str), v)] = none
  rw [List.lookup_cons, hb]
  rfl
theorem fsS_at (v : V) : (fsS v).lookup ("_state" : Str) = some v := by
  have hb : (("_state" : Str) == ("_state" : Str)) = true := beq_self_eq_true _
  show List.lookup ("_state" : Str) [(("_state" : Str), v)] = _
  rw [List.lookup_cons, hb]
theorem fsS_put (v u : V) : putF "_state" u (fsS v) = fsS u := rfl
def PlainAt (C : Addr) (H : Hp) (b : Addr) (s : St5) : Prop := ∃ dx v, H b = some (.ins C dx (fsS v)) ∧ s.At H v
theorem St5.At.ins {H : Hp} {v : V} {s : St5} {p C dx : Addr} {fs : List (Str × V)} {o : HO} (h : s.At H v) (hp : H p = some (.ins C dx fs)) : s.At (upd H p o) v := by
  obtain ⟨t, pc, pl, rfl, h1, h2, h3⟩ := h
  exact ⟨t, pc, pl, rfl, by rw [upd_ne (ne_of h1 hp (by intro z; cases z))]; exact h1, by rw [upd_ne (ne_of h2 hp (by intro z; cases z))]; exact h2, by rw [upd_ne (ne_of h3 hp (by intro z; cases z))]; exact h3⟩
theorem Ans.At.ins {H : Hp} {v : V} {a : Ans} {p C dx : Addr} {fs : List (Str × V)} {o : HO} (h : a.At H v) (hp : H p = some (.ins C dx fs)) : a.At (upd H p o) v := by
  cases a with
  | non => exact h
  | int n => exact h
  | view cs =>
    obtain ⟨t, e, h1⟩ := h
    exact ⟨t, e, by rw [upd_ne (ne_of h1 hp (by intro z; cases z))]; exact h1⟩
def spPInit (C : Addr) : Sp := fun vs H Q _ => ∃ (p dx : Addr) (m : Nat), vs = [.ref p, .int m] ∧ 1 ≤ m ∧ m ≤ 100 ∧ H p = some (.ins C dx []) ∧
  ∀ (H' : Hp), But p H H' → PlainAt C H' p (St5.first m) → Q .non H'
def spDone (C : Addr) : Sp := fun vs H Q _ => ∃ (b p : Addr) (s : St5) (h m : Nat) (d : Deed), vs = [.ref b, .int h, .ref p] ∧ PlainAt C H b s ∧ DeedAt H p d ∧ s.Ok m ∧ m ≤ 100 ∧ h < m ∧
  ∀ u H', (s.ans d).At H' u → PlainAt C H' b (s.behind h d) → But b H H' → Q u H'
end Sd

/-! tuples: slices, sums, whether an object is new or the old one -/
namespace Sd
open PySem L2
theorem cut_take {xs : List V} {h : Nat} (hh : h ≤ xs.length) : cutV xs none (some (h : Int)) = xs.take h := by
  unfold cutV
  rw [HT.sIx_nat, HT.sIx_none, List.drop_zero, Nat.sub_zero, Nat.min_eq_left hh]
theorem cut_drop {xs : List V} {h : Nat} : cutV xs (some (h : Int)) none = xs.drop h := by
  unfold cutV
  rw [HT.sIx_nat, HT.sIx_none]
  by_cases e : h ≤ xs.length
  · rw [Nat.min_eq_left e]
    exact List.take_of_length_le (by rw [List.length_drop]; omega)
  · rw [Nat.min_eq_right (by omega), Nat.sub_self, List.take_zero, List.drop_eq_nil_of_le (by omega)]
theorem cat_any {H : Hp} {a b : Addr} {xs ys : List V} {Q : VK} (ha : H a = some (.tup xs)) (hb : H b = some (.tup ys)) (q : ∀ u H', Same H H' → H' u = some (.tup (xs ++ ys)) → Q (.ref u) H') :
    (xs = [] → Q (.ref b) H) ∧ (xs ≠ [] → ys = [] → Q (.ref a) H) ∧ (xs ≠ [] → ys ≠ [] → ∀ p, H p = none → Q (.ref p) (upd H p (.tup (xs ++ ys)))) := by
  refine ⟨fun e => q b H (Same.refl H) ?_, fun _ e => q a H (Same.refl H) ?_, fun _ _ p hp => q p _ (Same.new hp) upd_same⟩
  · rw [e]
    exact hb
  · rw [e, List.append_nil]
    exact ha
theorem slice_any {H : Hp} {a : Addr} {xs : List V} {lo hi : Option Int} {Q : VK} (ha : H a = some (.tup xs)) (q : ∀ u H', Same H H' → H' u = some (.tup (cutV xs lo hi)) → Q (.ref u) H') :
    (HT.sIx xs.length 0 lo = 0 ∧ HT.sIx xs.length xs.length hi = xs.length → Q (.ref a) H) ∧ (¬ (HT.sIx xs.length 0 lo = 0 ∧ HT.sIx xs.length xs.length hi = xs.length) → ∀ p, H p = none → Q (.ref p) (upd H p (.tup (cutV xs lo hi)))) := by
  refine ⟨fun e => q a H (Same.refl H) ?_, fun _ p hp => q p _ (Same.new hp) upd_same⟩
  unfold cutV
  rw [e.1, e.2, List.drop_zero, Nat.sub_zero, List.take_length]
  exact ha
theorem cat_r {K : PySem.W.Frag} {H : Hp} {a b : Addr} {xs ys : List V} {Q : VK} (ha : H a = some (.tup xs)) (hb : H b = some (.tup ys)) (hn : xs.length + ys.length ≤ 1001) (q : ∀ u H', Same H H' → H' u = some (.tup (xs ++ ys)) → Q (.ref u) H') : rCatA K (.ref a) (.ref b) H Q :=
  ⟨a, b, xs, ys, rfl, rfl, SqT.of ha, SqT.of hb, Nat.le_trans hn (by decide), cat_any ha hb q⟩
theorem cat_rL {K : PySem.W.Frag} {H : Hp} {a b : Addr} {xs ys : List V} {Q : VK} (ha : H a = some (.tup xs)) (hb : H b = some (.tup ys)) (hn : xs.length + ys.length ≤ 10001) (q : ∀ u H', Same H H' → H' u = some (.tup (xs ++ ys)) → Q (.ref u) H') : rCatA K (.ref a) (.ref b) H Q :=
  ⟨a, b, xs, ys, rfl, rfl, SqT.of ha, SqT.of hb, Nat.le_trans hn (by decide), cat_any ha hb q⟩
theorem slice_r {K : PySem.W.Frag} {H : Hp} {a : Addr} {xs : List V} {lo hi : Option Int} {Q : VK} (ha : H a = some (.tup xs)) (q : ∀ u H', Same H H' → H' u = some (.tup (cutV xs lo hi)) → Q (.ref u) H') : rSlA K (.ref a) lo hi H Q :=
  ⟨a, xs, rfl, SqT.of ha, slice_any ha q⟩
end Sd

/-! tuple * int: by 1 it is the tuple itself -/
namespace Sd
open PySem PySem.Spec PyProof.Rows L2
theorem tuple_mul1 (l : Addr) (items : Array Value) (n : Nat) (sl : Array (Option Value)) (dd : Option Addr) (u : Tok) :
    Meets (Builtin.«tuple.__mul__» ⟨[.ref l, .int 1 u], []⟩) (fun _ R s => s.heap.get? l = some { cls := .type "tuple", dict := dd, data := .seq items n, slots := sl } ∧ R (.ok (.ret (.ref l))) s) :=
  .of_wp fun prog w A R s h => by
    obtain ⟨hp, g, d, tk, os⟩ := s
    obtain ⟨hl, h⟩ := h
    have f1 := AutoSeq1.idx_int
    have c1 : (items.isEmpty || (1 : Int) == 1) = true := Bool.or_true _
    wp_walk using wpAny_loadPart' hl
    exact ⟨_, rfl, h⟩
def rRepT1 (K : PySem.W.Frag) : R2 := fun x y H Q => ∃ l k xs, x = .ref l ∧ y = .int k ∧ SqT K H l xs ∧ xs ≠ [] ∧ 1 ≤ k ∧ k ≤ 1000 ∧ xs.length ≤ 1000 ∧ (k = 1 → Q (.ref l) H) ∧ (k ≠ 1 → ∀ p, H p = none → Q (.ref p) (upd H p (.tup (List.replicate k.toNat xs).flatten)))
theorem op_repT1 {X : Cx} : OpR X (binaryOp .Mult) (rRepT1 X.K) := by
  intro pins s σ H x y v u Q I rx ry h
  obtain ⟨l, k, xs, rfl, rfl, hT, hne, h1, h2, hz, q1, q2⟩ := h
  by_cases e : k = 1
  · subst e
    cases rx
    obtain ⟨t, rfl⟩ := ry
    obtain ⟨its, r, ⟨⟨cls, dd, data, sl⟩, ho, hc, n, hd⟩, hs⟩ := I.tuple hT
    simp only at hc hd
    subst hc hd
    refine wpAny_binaryOp_repeat_ref (T := "tuple") (U := "int") (by decide) ⟨_, ho, rfl⟩ (fun s' => typeIs_int s' 1 t) noFill_tuple_mul F.fills_int_mul F.slot_int_rmul repeat_tuple F.slot_int_index.lookup
      (call_meets F.slot_int_rmul (typeIs_int s 1 t) F.entry_int_rmul (F.args_int_rmul_2 _ _) (int_rmul_tuple 1 t l its.toArray n dd sl)
        ⟨ho, rfl, ⟨_, ho, rfl⟩, call_meets F.slot_tuple_mul ⟨_, ho, rfl⟩ F.entry_tuple_mul (F.args_tuple_mul_2 _ _) (tuple_mul1 l its.toArray n sl dd t) ⟨ho, ?_⟩⟩)
    exact ⟨.ref l, H, I, rfl, q1 rfl⟩
  · exact op_repT pins s σ H _ _ v u Q I rx ry ⟨l, k, xs, rfl, rfl, hT, hne, by omega, h2, hz, q2 e⟩
end Sd


namespace K04
open PySem L2
def top (i : Nat) : Stmt := PySem.Challenge.pw_stillhands_k04_at_once.main.body.getD i (.Pass ⟨0, 0, 0, 0⟩)
abbrev s_first_state : Stmt := top 1
abbrev s_answer_in : Stmt := top 2
abbrev s_state_behind : Stmt := top 3
abbrev s_Plain__init_ : Stmt := inClass (top 5) 0
abbrev s_Plain_done : Stmt := inClass (top 5) 1
abbrev s_l_cell : Stmt := top 7
abbrev s_l_dice : Stmt := top 8
abbrev s_l_off : Stmt := top 9
abbrev s_l_plain : Stmt := top 10
abbrev s_l_at_once : Stmt := top 11
abbrev s_l_same : Stmt := top 12
abbrev s_l_deed : Stmt := top 13
abbrev s_l_plans : Stmt := top 14
abbrev s_l_words : Stmt := top 15
abbrev s_law : Stmt := top 16
structure Dr (K : PySem.W.Frag) (mg : Str → Option Value) : Prop where
  abs : mg "abs" = none
  len : mg "len" = none
  max : mg "max" = none
  int : mg "int" = none
structure Txt (K : PySem.W.Frag) (mg : Str → Option Value) (A_Plain : Addr) : Prop extends Dr K mg where
  isinstance : mg "isinstance" = none
  bool : mg "bool" = none
  tuple : mg "tuple" = none
  str : mg "str" = none
  sum : mg "sum" = none
  range : mg "range" = none
  zip : mg "zip" = none
  m_Plain : mg "Plain" = some (.ref A_Plain)
  cl_Plain : Cls K A_Plain
  n_Plain__state : NoAttr K A_Plain "_state"
def spLaw (K : PySem.W.Frag) : Sp := fun vs H Q _ => ∃ (a : Addr) (ns : List Int), vs = [.ref a] ∧ SqL K H a (ns.map V.int) ∧ ns.length ≤ 63 ∧ ∀ H', Q (.bl true) H'
/-! a cell of the script -/
section
variable {P : Program} {w : World} {K : PySem.W.Frag} {mg : Str → Option Value} {base : Heap}
abbrev N_l_cell : List Str := ["_law_script", "_law_k"]
theorem sc_l_cell : FnScope N_l_cell ["_law_script", "_law_k"] (defScope s_l_cell) := ⟨rfl, rfl, rfl, by decide +kernel, rfl, by decide +kernel, by decide +kernel⟩
theorem ok_l_cell {f : Addr} {fd : FuncData} (F : Fun K "_law_cell" "_law_cell" s_l_cell f fd) (T : Dr K mg) : FnOk P w K mg base CX0 1 f fd ["_law_script", "_law_k"] (Sd.spCell K) := by
  refine F.ok sc_l_cell (fun vs H Q E h => ?_) (fun cdv A outer s H vs Q E hr h => ?_)
  · obtain ⟨a, ns, k, rfl, _⟩ := h
    rfl
  · obtain ⟨a, ns, k, rfl, h0, hS, q⟩ := h
    refine ⟨_, (pss_cons (ps_if (pt_cmpR op_lt (pv 1) (pe_callB call_len_seq (by rfl) T.len (by decide +kernel) (pa_cons (pv 0) pa_nil)) (nomark _))
      (pss_one (ps_ret (pe_ix ix_list (pv 0) (pv 1) (fun _ _ => rfl))))
      pss_nil)
      (pss_one (ps_ret pe_int))), ?_⟩
    obtain ⟨m, rfl⟩ := Int.eq_ofNat_of_zero_le h0
    refine ⟨_, rfl, _, rfl, a, _, rfl, .inl hS, _, _, rfl, rfl, _, rfl, ?_⟩
    refine ite2 (fun c => ?_) (fun c => ?_)
    · have hm : m < ns.length := by
        have c' := of_decide_eq_true c
        rw [List.length_map] at c'
        omega
      exact ⟨_, rfl, _, rfl, a, _, _, _, rfl, rfl, hS, atI_nat (Sd.ints_get (List.getElem?_eq_getElem hm)), q _⟩
    · exact q 0
end
/-! the defs of the draws -/
section
variable {P : Program} {w : World} {K : PySem.W.Frag} {mg : Str → Option Value} {base : Heap}
abbrev N_l_dice : List Str := ["_law_script", "_law_k", "_law_cell_here"]
theorem sc_l_dice : FnScope N_l_dice ["_law_script", "_law_k"] (defScope s_l_dice) := ⟨rfl, rfl, rfl, by decide +kernel, rfl, by decide +kernel, by decide +kernel⟩
theorem ok_l_dice {f : Addr} {fd : FuncData} (F : Fun K "_law_dice" "_law_dice" s_l_dice f fd) (T : Dr K mg) (C_l_cell : Sd.Cal P w K mg base CX0 1 "_law_cell" ["_law_script", "_law_k"] (Sd.spCell K)) :
    FnOk P w K mg base CX0 2 f fd ["_law_script", "_law_k"] (Sd.spDice K) := by
  refine F.ok sc_l_dice (fun vs H Q E h => ?_) (fun cdv A outer s H vs Q E hr h => ?_)
  · obtain ⟨a, ns, k, rfl, _⟩ := h
    rfl
  · obtain ⟨a, ns, k, rfl, h0, hS, q⟩ := h
    refine ⟨_, (pss_cons (ps_set (i := 2) sc_l_dice.nd rfl (Or.inl rfl) (pe_callB call_abs (by rfl) T.abs (by decide +kernel) (pa_cons (Sd.pe_fn C_l_cell (hr.mono (by decide)) pass0 (pa_cons (pv 0) (pa_cons (pv 1) pa_nil))) pa_nil)))
      (pss_one (ps_ret (pe_lst (pa_cons (pe_op op_mod (pv 2) pe_int) (pa_cons (pv 0) (pa_cons (pe_op op_add (pv 1) pe_int) (pa_cons (pe_op op_mul (pe_callTy call_int1 (by rfl) T.int (by decide +kernel) (pa_cons (pe_cmpR op_ge (pv 2) (pe_op op_pow pe_int pe_int) (nomark _)) pa_nil)) (pv 2)) pa_nil)))))))), ?_⟩
    refine ⟨_, rfl, _, rfl, a, ns, k, rfl, h0, hS, fun v => ⟨v, rfl, ?_⟩⟩
    refine ⟨_, rfl, _, _, rfl, rfl, (by show (0 : Int) < 2147483647; decide), _, rfl, _, rfl, _, _, rfl, rfl, ?_⟩
    refine ⟨_, rfl, _, _, rfl, rfl, ⟨by decide, by decide, by decide⟩, _, _, rfl, rfl, .inr ⟨_, rfl, ?_⟩⟩
    refine ⟨_, rfl, _, _, rfl, rfl, .inl ?_, (by show 4 ≤ sizeLine; decide), fun p hp => ?_⟩
    · exact Sd.b01 _
    · exact q p _ hp (Sd.Same.new hp) Sd.But.upd ⟨_, _, _, upd_same⟩ fun b n => upd_ne n
abbrev N_l_off : List Str := ["_law_d", "_law_most", "_law_found", "_law_more"]
theorem sc_l_off : FnScope N_l_off ["_law_d", "_law_most"] (defScope s_l_off) := ⟨rfl, rfl, rfl, by decide +kernel, rfl, by decide +kernel, by decide +kernel⟩
theorem ok_l_off {f : Addr} {fd : FuncData} (F : Fun K "_law_off" "_law_off" s_l_off f fd) (T : Dr K mg) (C_l_cell : Sd.Cal P w K mg base CX0 1 "_law_cell" ["_law_script", "_law_k"] (Sd.spCell K)) :
    FnOk P w K mg base CX0 2 f fd ["_law_d", "_law_most"] (Sd.spOff K) := by
  refine F.ok sc_l_off (fun vs H Q E h => ?_) (fun cdv A outer s H vs Q E hr h => ?_)
  · obtain ⟨d, a, ns, m, rfl, _⟩ := h
    rfl
  · obtain ⟨d, a, ns, m, rfl, ⟨n, k, g, hd⟩, hS, hm0, hm1, q⟩ := h
    refine ⟨_, (pss_cons (ps_if (pt_cmpR op_gt (pe_ix ix_list (pv 0) pe_int (fun _ _ => rfl)) pe_int (nomark _))
      (pss_cons (ps_set (i := 2) sc_l_off.nd rfl (Or.inl rfl) (pe_op op_mod (pe_ix ix_list (pv 0) pe_int (fun _ _ => rfl)) (pv 1)))
      (pss_cons (ps_asg (pe_op op_fdiv (pe_ix ix_list (pv 0) pe_int (fun _ _ => rfl)) (pv 1)) (pg_sub (pv 0) pe_int set_list))
      (pss_one (ps_ret (pv 2)))))
      pss_nil)
      (pss_cons (ps_set (i := 3) sc_l_off.nd rfl (Or.inl rfl) (pe_callB call_abs (by rfl) T.abs (by decide +kernel) (pa_cons (Sd.pe_fn C_l_cell (hr.mono (by decide)) pass0 (pa_cons (pe_ix ix_list (pv 0) pe_int (fun _ _ => rfl)) (pa_cons (pe_op op_mod (pe_ix ix_list (pv 0) pe_int (fun _ _ => rfl)) (pe_callB (call_max2 rfl) (by rfl) T.max (by decide +kernel) (pa_cons pe_int (pa_cons (pe_callB call_len_seq (by rfl) T.len (by decide +kernel) (pa_cons (pe_ix ix_list (pv 0) pe_int (fun _ _ => rfl)) pa_nil)) pa_nil)))) pa_nil))) pa_nil)))
      (pss_cons (ps_asg (pe_op op_add (pe_ix ix_list (pv 0) pe_int (fun _ _ => rfl)) pe_int) (pg_sub (pv 0) pe_int set_list))
      (pss_cons (ps_asg (pe_op op_mod (pe_op op_add (pe_op op_add (pe_op op_mul (pe_ix ix_list (pv 0) pe_int (fun _ _ => rfl)) pe_int) pe_int) (pv 3)) pe_int) (pg_sub (pv 0) pe_int set_list))
      (pss_one (ps_ret (pe_op op_mod (pe_op op_fdiv (pe_ix ix_list (pv 0) pe_int (fun _ _ => rfl)) pe_int) (pv 1)))))))), ?_⟩
    have at0 : ∀ x y z t : V, atI [x, y, z, t] (0 : Int) = some x := fun _ _ _ _ => atI_nat (j := 0) rfl
    have at1 : ∀ x y z t : V, atI [x, y, z, t] (1 : Int) = some y := fun _ _ _ _ => atI_nat (j := 1) rfl
    have at2 : ∀ x y z t : V, atI [x, y, z, t] (2 : Int) = some z := fun _ _ _ _ => atI_nat (j := 2) rfl
    have at3 : ∀ x y z t : V, atI [x, y, z, t] (3 : Int) = some t := fun _ _ _ _ => atI_nat (j := 3) rfl
    refine ⟨_, rfl, d, _, _, _, rfl, rfl, SqL.of hd, at3 _ _ _ _, _, _, rfl, rfl, _, rfl, ?_⟩
    refine ite2 (fun c => ?_) (fun c => ?_)
    · refine ⟨_, rfl, d, _, _, _, rfl, rfl, SqL.of hd, at3 _ _ _ _, _, rfl, _, _, rfl, rfl, hm0, ?_⟩
      refine ⟨_, rfl, d, _, _, _, rfl, rfl, SqL.of hd, at3 _ _ _ _, _, rfl, _, _, rfl, rfl, ⟨hm0, hm1⟩, _, rfl, d, _, _, 3, rfl, rfl, hd, rfl, ?_⟩
      exact ⟨_, rfl, q _ _ (Int.emod_nonneg _ (by omega)) (Int.emod_lt_of_pos _ hm0) ⟨n, k, _, upd_same⟩ fun b e => upd_ne e⟩
    · refine ⟨_, rfl, d, _, _, _, rfl, rfl, SqL.of hd, at1 _ _ _ _, _, rfl, d, _, _, _, rfl, rfl, SqL.of hd, at2 _ _ _ _, ?_⟩
      refine ⟨_, rfl, d, _, _, _, rfl, rfl, SqL.of hd, at1 _ _ _ _, a, _, rfl, .inl hS, _, _, rfl, ?_⟩
      have hM : (0 : Int) < (if (((ns.map V.int).length : Nat) : Int) > 1 then (((ns.map V.int).length : Nat) : Int) else 1) := by
        split <;> omega
      refine ⟨_, _, rfl, rfl, hM, ?_⟩
      refine ⟨a, ns, _, rfl, Int.emod_nonneg _ (by omega), hS, fun v => ⟨v, rfl, ?_⟩⟩
      refine ⟨_, rfl, d, _, _, _, rfl, rfl, SqL.of hd, at2 _ _ _ _, _, _, rfl, rfl, _, rfl, d, _, _, 2, rfl, rfl, hd, rfl, ?_⟩
      refine ⟨_, rfl, d, _, _, _, rfl, rfl, SqL.of upd_same, at0 _ _ _ _, _, _, rfl, rfl, .inr ⟨by decide, by decide⟩, _, _, rfl, rfl, ?_⟩
      refine ⟨_, rfl, _, _, rfl, rfl, _, _, rfl, rfl, (by show (0 : Int) < 2147483647; decide), _, rfl, d, _, _, 0, rfl, rfl, upd_same, rfl, ?_⟩
      refine ⟨_, rfl, d, _, _, _, rfl, rfl, SqL.of upd_same, at0 _ _ _ _, _, _, rfl, rfl, ⟨by decide, by decide⟩, _, rfl, _, _, rfl, rfl, hm0, ?_⟩
      exact q _ _ (Int.emod_nonneg _ (by omega)) (Int.emod_lt_of_pos _ hm0) ⟨_, _, _, upd_same⟩ fun b e => by rw [upd_ne e, upd_ne e]
end

section
variable {P : Program} {w : World} {K : PySem.W.Frag} {mg : Str → Option Value} {base : Heap}
abbrev N_l_deed : List Str := ["_law_d", "_law_word"]
theorem sc_l_deed : FnScope N_l_deed ["_law_d", "_law_word"] (defScope s_l_deed) := ⟨rfl, rfl, rfl, by decide +kernel, rfl, by decide +kernel, by decide +kernel⟩
theorem ok_l_deed {f : Addr} {fd : FuncData} (F : Fun K "_law_deed" "_law_deed" s_l_deed f fd) (T : Dr K mg)
    (C_l_off : Sd.Cal P w K mg base CX0 2 "_law_off" ["_law_d", "_law_most"] (Sd.spOff K))
    : FnOk P w K mg base CX0 3 f fd ["_law_d", "_law_word"] (Sd.spLDeed K) := by
  refine F.ok sc_l_deed (fun vs H Q E h => ?_) (fun cdv A outer s H vs Q E hr h => ?_)
  · obtain ⟨d, a, ns, w, rfl, _⟩ := h
    rfl
  · obtain ⟨d, a, ns, w, rfl, hw, D, hS, q⟩ := h
    refine ⟨_, (pss_cons (ps_if (pt_cmpR op_in_seq (pv 1) (pe_lst (pa_cons pe_str (pa_cons pe_str (pa_cons pe_str (pa_cons pe_str pa_nil))))) (by rfl))
      (pss_one (ps_ret (pe_tup (pa_cons (pv 1) (pa_cons (pe_ix ix_list (pe_lst (pa_cons (Sd.pe_fn C_l_off (hr.mono (by decide)) pass0 (pa_cons (pv 0) (pa_cons pe_int pa_nil))) (pa_cons (Sd.pe_fn C_l_off (hr.mono (by decide)) pass0 (pa_cons (pv 0) (pa_cons pe_int pa_nil))) pa_nil))) (Sd.pe_fn C_l_off (hr.mono (by decide)) pass0 (pa_cons (pv 0) (pa_cons pe_int pa_nil))) (fun _ _ => rfl)) pa_nil)))))
      pss_nil)
      (pss_one (ps_ret (pe_tup (pa_cons (pv 1) pa_nil))))), ?_⟩
    refine ⟨_, rfl, (by show 4 ≤ sizeLine; decide), fun p hp => ⟨p, _, rfl, .inl (SqL.of upd_same), rfl, rfl, _, rfl, ?_⟩⟩
    have D1 : Sd.Dice (upd H p (.lst [.str "set", .str "add", .str "raise", .str "give"])) d a := D.same (Sd.Same.new hp)
    have S1 : SqL K (upd H p (.lst [.str "set", .str "add", .str "raise", .str "give"])) a (ns.map V.int) := (Sd.Same.new hp).seq hS
    have s1 : Same H (upd H p (.lst [.str "set", .str "add", .str "raise", .str "give"])) := Sd.Same.new hp
    generalize upd H p (.lst [.str "set", .str "add", .str "raise", .str "give"]) = H1 at D1 S1 s1
    obtain ⟨dd, rfl⟩ := Sd.word_of hw
    cases dd
    all_goals first
      | refine ⟨_, rfl, (by show 1 ≤ sizeLine; decide), fun t ht => ?_⟩
        exact q t _ _ rfl trivial (s1.free ht) upd_same (D1.same (Sd.Same.new ht)) (Sd.Same.but (s1.trans (Sd.Same.new ht)))
      | refine ⟨_, rfl, _, rfl, d, a, ns, 1000, rfl, D1, S1, by decide, by decide, fun r1 H2 r10 r11 D2 o2 => ?_⟩
        have b2 : Sd.But d H1 H2 := fun c u n e => by rw [o2 c n]; exact e
        have S2 := D1.seq b2 S1
        refine ⟨_, rfl, d, a, ns, 4, rfl, D2, S2, by decide, by decide, fun r2 H3 r20 r21 D3 o3 => ?_⟩
        have b3 : Sd.But d H2 H3 := fun c u n e => by rw [o3 c n]; exact e
        have S3 := D2.seq b3 S2
        refine ⟨(by show 2 ≤ sizeLine; decide), fun l hl => ?_⟩
        have D4 : Sd.Dice (upd H3 l (.lst [.int r1, .int r2])) d a := D3.same (Sd.Same.new hl)
        refine ⟨_, rfl, d, a, ns, 2, rfl, D4, (Sd.Same.new hl).seq S3, by decide, by decide, fun r3 H5 r30 r31 D5 o5 => ?_⟩
        have nl : l ≠ d := fun z => by
          obtain ⟨_, hd⟩ := D3.some
          rw [z, hd] at hl
          cases hl
        have hl5 : H5 l = some (.lst [.int r1, .int r2]) := by rw [o5 l nl]; exact upd_same
        obtain ⟨z, hz, hzz⟩ := Sd.two_at (n := r1) (m := r2) r30 r31
        refine ⟨l, _, _, _, rfl, rfl, SqL.of hl5, hz, ?_⟩
        refine ⟨(by show 2 ≤ sizeLine; decide), fun t ht => ?_⟩
        have b5 : Sd.But d (upd H3 l (.lst [.int r1, .int r2])) H5 := fun c u n e => by rw [o5 c n]; exact e
        have bt : ∀ o, Sd.But d H (upd H5 t o) := fun o => ((((Sd.Same.but (d := d) s1).trans b2).trans b3).trans (Sd.Same.but (Sd.Same.new hl))).trans (b5.trans (Sd.Same.but (Sd.Same.new ht)))
        have hf : H t = none := by
          cases e : H t with
          | none => rfl
          | some u =>
            have n : t ≠ d := fun z => by
              obtain ⟨_, hd⟩ := D5.some
              rw [z, hd] at ht
              cases ht
            have e5 := (((((Sd.Same.but (d := d) s1).trans b2).trans b3).trans (Sd.Same.but (Sd.Same.new hl))).trans b5) t u n e
            rw [ht] at e5
            cases e5
        have ok9 : 0 ≤ z ∧ z ≤ 999 := by
          rcases hzz with rfl | rfl <;> omega
        first
          | exact q t _ (.set z) rfl ok9 hf upd_same (D5.same (Sd.Same.new ht)) (bt _)
          | exact q t _ (.add z) rfl ok9 hf upd_same (D5.same (Sd.Same.new ht)) (bt _)
          | exact q t _ (.rais z) rfl ok9 hf upd_same (D5.same (Sd.Same.new ht)) (bt _)
          | exact q t _ (.give z) rfl ok9 hf upd_same (D5.same (Sd.Same.new ht)) (bt _)
end

section
variable {P : Program} {w : World} {K : PySem.W.Frag} {mg : Str → Option Value} {base : Heap}
abbrev N_first_state : List Str := ["many"]
theorem sc_first_state : FnScope N_first_state ["many"] (defScope s_first_state) := ⟨rfl, rfl, rfl, by decide +kernel, rfl, by decide +kernel, by decide +kernel⟩
theorem ok_first_state {f : Addr} {fd : FuncData} (F : Fun K "first_state" "first_state" s_first_state f fd) (T : Dr K mg)
    : FnOk P w K mg base CX0 1 f fd ["many"] (Sd.spFirst) := by
  refine F.ok sc_first_state (fun vs H Q E h => ?_) (fun cdv A outer s H vs Q E hr h => ?_)
  · obtain ⟨m, rfl, _⟩ := h
    rfl
  · obtain ⟨m, rfl, h1, h2, q⟩ := h
    refine ⟨_, (pss_one (ps_ret (pe_tup (pa_cons pe_int (pa_cons (pe_op Sd.op_repT1 (pe_tup (pa_cons pe_int pa_nil)) (pv 0)) (pa_cons pe_int (pa_cons pe_int (pa_cons (pe_tup pa_nil) pa_nil)))))))), ?_⟩
    refine ⟨(by show 1 ≤ sizeLine; decide), fun t0 ht0 => ⟨_, rfl, t0, _, _, rfl, rfl, SqT.of upd_same, (by intro z; cases z), by omega, by omega, (by show 1 ≤ 1000; decide), ?_⟩⟩
    have fin : ∀ pc H1, Same H H1 → H1 pc = some (.tup ((List.replicate m (0 : Int)).map V.int)) → ∀ pl, H1 pl = none → ∀ t, upd H1 pl (.tup []) t = none → Q (.ref t) (upd (upd H1 pl (.tup [])) t (.tup [.int 0, .ref pc, .int 0, .int 0, .ref pl])) := fun pc H1 s1 hc pl hpl t ht =>
      q _ _ ((s1.trans (Sd.Same.new hpl)).trans (Sd.Same.new ht)) ⟨t, pc, pl, rfl, upd_same, Sd.Same.new ht _ _ (Sd.Same.new hpl _ _ hc), Sd.Same.new ht _ _ upd_same⟩
    refine ⟨fun e => ?_, fun e => fun p hp => ?_⟩
    · refine ⟨(by show 0 ≤ sizeLine; decide), fun pl hpl => ⟨(by show 5 ≤ sizeLine; decide), fun t ht => ?_⟩⟩
      refine fin t0 _ (Sd.Same.new ht0) ?_ pl hpl t ht
      have e1 : m = 1 := by omega
      rw [upd_same, e1]
      rfl
    · refine ⟨(by show 0 ≤ sizeLine; decide), fun pl hpl => ⟨(by show 5 ≤ sizeLine; decide), fun t ht => ?_⟩⟩
      refine fin p _ ((Sd.Same.new ht0).trans (Sd.Same.new hp)) ?_ pl hpl t ht
      rw [upd_same, Int.toNat_natCast, Sd.rep_flat]
abbrev N_answer_in : List Str := ["state", "deed", "counted", "cells", "added", "top", "line", "word"]
theorem sc_answer_in : FnScope N_answer_in ["state", "deed"] (defScope s_answer_in) := ⟨rfl, rfl, rfl, by decide +kernel, rfl, by decide +kernel, by decide +kernel⟩
theorem ok_answer_in {f : Addr} {fd : FuncData} (F : Fun K "answer_in" "answer_in" s_answer_in f fd) (T : Dr K mg)
    : FnOk P w K mg base CX0 1 f fd ["state", "deed"] (Sd.spAnsIn) := by
  refine F.ok sc_answer_in (fun vs H Q E h => ?_) (fun cdv A outer s H vs Q E hr h => ?_)
  · obtain ⟨v, p, s, d, rfl, _⟩ := h
    rfl
  · obtain ⟨v, p, s, d, rfl, ⟨t, pc, pl, rfl, ht, hc, hl⟩, hp, hn, q⟩ := h
    refine ⟨_, (pss_cons (ps_asg (pv 0) (pg_tup (by rfl) (pgs_cons (pg_name (i := 2) sc_answer_in.nd rfl (Or.inl rfl)) (pgs_cons (pg_name (i := 3) sc_answer_in.nd rfl (Or.inl rfl)) (pgs_cons (pg_name (i := 4) sc_answer_in.nd rfl (Or.inl rfl)) (pgs_cons (pg_name (i := 5) sc_answer_in.nd rfl (Or.inl rfl)) (pgs_cons (pg_name (i := 6) sc_answer_in.nd rfl (Or.inl rfl)) pgs_nil)))))))
      (pss_cons (ps_set (i := 7) sc_answer_in.nd rfl (Or.inl rfl) (pe_ix ix_tup (pv 1) pe_int (fun _ _ => rfl)))
      (pss_cons (ps_if (pt_cmpR op_eq (pv 7) pe_str (nomark _))
      (pss_one (ps_ret (pv 2)))
      pss_nil)
      (pss_cons (ps_if (pt_cmpR op_eq (pv 7) pe_str (nomark _))
      (pss_one (ps_ret (pv 3)))
      pss_nil)
      (pss_cons (ps_if (pt_cmpR op_eq (pv 7) pe_str (nomark _))
      (pss_one (ps_ret (pv 4)))
      pss_nil)
      (pss_cons (ps_if (pt_cmpR op_eq (pv 7) pe_str (nomark _))
      (pss_one (ps_ret (pv 5)))
      pss_nil)
      (pss_cons (ps_if (PW.pt (pw_and (pt_cmpR op_eq (pv 7) pe_str (nomark _)) (pw_and1 (pt_truth (pv 6) (by intro _; rfl)))))
      (pss_one (ps_ret (pe_ix ix_tup (pv 6) pe_int (fun _ _ => rfl))))
      pss_nil)
      (pss_one (ps_ret pe_non))))))))), ?_⟩
    refine ⟨_, rfl, t, _, rfl, SqT.of ht, rfl, _, _, rfl, _, _, rfl, _, _, rfl, _, _, rfl, _, _, rfl, rfl, ?_⟩
    refine ⟨_, rfl, p, _, _, _, rfl, rfl, SqT.of hp, d.at0, ?_⟩
    cases d
    case count => exact ⟨_, rfl, rfl, _, rfl, _, rfl, q _ rfl⟩
    case look => exact ⟨_, rfl, rfl, _, rfl, _, rfl, rfl, _, rfl, _, rfl, q _ ⟨pc, rfl, hc⟩⟩
    case sum => exact ⟨_, rfl, rfl, _, rfl, _, rfl, rfl, _, rfl, _, rfl, rfl, _, rfl, _, rfl, q _ rfl⟩
    case top => exact ⟨_, rfl, rfl, _, rfl, _, rfl, rfl, _, rfl, _, rfl, rfl, _, rfl, _, rfl, rfl, _, rfl, _, rfl, q _ rfl⟩
    case take =>
      refine ⟨_, rfl, rfl, _, rfl, _, rfl, rfl, _, rfl, _, rfl, rfl, _, rfl, _, rfl, rfl, _, rfl, _, rfl, rfl, _, rfl, _, rfl, _, .inr (.inl ⟨_, SqT.of hl, rfl⟩), ?_⟩
      obtain ⟨_, _, _, _, line⟩ := s
      cases line with
      | nil => exact q _ rfl
      | cons g r => exact ⟨_, rfl, pl, _, _, _, rfl, rfl, SqT.of hl, atI_nat (j := 0) rfl, q _ rfl⟩
    all_goals exact ⟨_, rfl, rfl, _, rfl, _, rfl, rfl, _, rfl, _, rfl, rfl, _, rfl, _, rfl, rfl, _, rfl, _, rfl, rfl, _, rfl, q _ rfl⟩
abbrev N_state_behind : List Str := ["state", "hand", "deed", "counted", "cells", "added", "top", "line", "word"]
theorem sc_state_behind : FnScope N_state_behind ["state", "hand", "deed"] (defScope s_state_behind) := ⟨rfl, rfl, rfl, by decide +kernel, rfl, by decide +kernel, by decide +kernel⟩
theorem ok_state_behind {f : Addr} {fd : FuncData} (F : Fun K "state_behind" "state_behind" s_state_behind f fd) (T : Dr K mg)
    : FnOk P w K mg base CX0 1 f fd ["state", "hand", "deed"] (Sd.spBehind) := by
  refine F.ok sc_state_behind (fun vs H Q E h => ?_) (fun cdv A outer s H vs Q E hr h => ?_)
  · obtain ⟨v, p, s, h, m, d, rfl, _⟩ := h
    rfl
  · obtain ⟨v, p, s, h, m, d, rfl, ⟨t, pc, pl, rfl, ht, hc, hl⟩, hp, hok, hm, hh, q⟩ := h
    refine ⟨_, (pss_cons (ps_asg (pv 0) (pg_tup (by rfl) (pgs_cons (pg_name (i := 3) sc_state_behind.nd rfl (Or.inl rfl)) (pgs_cons (pg_name (i := 4) sc_state_behind.nd rfl (Or.inl rfl)) (pgs_cons (pg_name (i := 5) sc_state_behind.nd rfl (Or.inl rfl)) (pgs_cons (pg_name (i := 6) sc_state_behind.nd rfl (Or.inl rfl)) (pgs_cons (pg_name (i := 7) sc_state_behind.nd rfl (Or.inl rfl)) pgs_nil)))))))
      (pss_cons (ps_set (i := 8) sc_state_behind.nd rfl (Or.inl rfl) (pe_ix ix_tup (pv 2) pe_int (fun _ _ => rfl)))
      (C8.pss_cut (ps_if (pt_cmpR op_eq (pv 8) pe_str (nomark _))
      (pss_one (ps_set (i := 3) sc_state_behind.nd rfl (Or.inl rfl) (pe_op op_add (pv 3) pe_int)))
      (pss_one (ps_if (pt_cmpR op_eq (pv 8) pe_str (nomark _))
      (pss_one (ps_set (i := 4) sc_state_behind.nd rfl (Or.inl rfl) (pe_op op_catA (pe_op op_catA (pe_slice sl_tupA (pv 4) po_none (po_some (pv 1))) (pe_tup (pa_cons (pe_ix ix_tup (pv 2) pe_int (fun _ _ => rfl)) pa_nil))) (pe_slice sl_tupA (pv 4) (po_some (pe_op op_add (pv 1) pe_int)) po_none))))
      (pss_one (ps_if (pt_cmpR op_eq (pv 8) pe_str (nomark _))
      (pss_one (ps_set (i := 5) sc_state_behind.nd rfl (Or.inl rfl) (pe_op op_add (pv 5) (pe_ix ix_tup (pv 2) pe_int (fun _ _ => rfl)))))
      (pss_one (ps_if (pt_cmpR op_eq (pv 8) pe_str (nomark _))
      (pss_one (ps_set (i := 6) sc_state_behind.nd rfl (Or.inl rfl) (pe_callB (call_max2 rfl) (by rfl) T.max (by decide +kernel) (pa_cons (pv 6) (pa_cons (pe_ix ix_tup (pv 2) pe_int (fun _ _ => rfl)) pa_nil)))))
      (pss_one (ps_if (pt_cmpR op_eq (pv 8) pe_str (nomark _))
      (pss_one (ps_set (i := 7) sc_state_behind.nd rfl (Or.inl rfl) (pe_op op_catA (pv 7) (pe_tup (pa_cons (pe_ix ix_tup (pv 2) pe_int (fun _ _ => rfl)) pa_nil)))))
      (pss_one (ps_if (pt_cmpR op_eq (pv 8) pe_str (nomark _))
      (pss_one (ps_set (i := 7) sc_state_behind.nd rfl (Or.inl rfl) (pe_slice sl_tupA (pv 7) (po_some pe_int) po_none)))
      pss_nil)))))))))))
      (pss_one (ps_ret (pe_tup (pa_cons (pv 3) (pa_cons (pv 4) (pa_cons (pv 5) (pa_cons (pv 6) (pa_cons (pv 7) pa_nil))))))))))), ?_⟩
    refine ⟨_, rfl, t, _, rfl, SqT.of ht, rfl, _, _, rfl, _, _, rfl, _, _, rfl, _, _, rfl, _, _, rfl, rfl, ?_⟩
    refine ⟨_, rfl, p, _, _, _, rfl, rfl, SqT.of hp, d.at0, ?_⟩
    refine ⟨fun σ' H' => Same H H' ∧ ∃ u1 u2, σ' = [some (.ref t), some (.int h), some (.ref p), some (.int (s.behind h d).ones), some (.ref u1), some (.int (s.behind h d).added), some (.int (s.behind h d).top), some (.ref u2), some (.str d.word)] ∧
      H' u1 = some (.tup ((s.behind h d).cells.map V.int)) ∧ H' u2 = some (.tup ((s.behind h d).line.map V.int)), ?_, ?_⟩
    · have hcl := hok.cells
      have hll := hok.line
      cases d
      case one => exact ⟨_, rfl, rfl, _, rfl, _, rfl, _, _, rfl, rfl, Same.refl _, pc, pl, rfl, hc, hl⟩
      case set n =>
        refine ⟨_, rfl, rfl, _, rfl, _, rfl, rfl, _, rfl, ?_⟩
        refine ⟨_, rfl, _, rfl, _, rfl, ?_⟩
        refine Sd.slice_r hc fun u1 H1 s1 hu1 => ?_
        refine ⟨_, rfl, p, _, _, _, rfl, rfl, SqT.of (s1 _ _ hp), atI_nat (j := 1) rfl, (by show 1 ≤ sizeLine; decide), fun u2 hu2 => ?_⟩
        have s2 := Sd.Same.new (o := .tup [.int n]) hu2
        have a1 := cutV_length (s.cells.map V.int) none (some (h : Int))
        have a2 := cutV_length (s.cells.map V.int) (some ((h : Int) + 1)) none
        rw [List.length_map, hcl] at a1 a2
        refine Sd.cat_r (s2 _ _ hu1) upd_same (by show _ + 1 ≤ 1001; omega) fun u3 H3 s3 hu3 => ?_
        have s13 := (s1.trans s2).trans s3
        refine ⟨_, rfl, _, rfl, _, _, rfl, rfl, _, rfl, ?_⟩
        dsimp only [tNoPart]
        refine Sd.slice_r (s13 _ _ hc) fun u4 H4 s4 hu4 => ?_
        refine Sd.cat_r (s4 _ _ hu3) hu4 (by rw [List.length_append]; show _ + 1 + _ ≤ 1001; omega) fun u5 H5 s5 hu5 => ?_
        have s15 := (s13.trans s4).trans s5
        refine ⟨s15, u5, pl, rfl, ?_, s15 _ _ hl⟩
        rw [hu5, Sd.cut_take (by rw [List.length_map, hcl]; omega), show ((h : Int) + 1) = ((h + 1 : Nat) : Int) from rfl, Sd.cut_drop]
        show some (HO.tup _) = some (HO.tup ((s.cells.set h n).map V.int))
        rw [List.set_eq_take_append_cons_drop, if_pos (by omega), List.map_append, List.map_cons, List.map_take, List.map_drop, List.append_assoc]
        rfl
      case add n => exact ⟨_, rfl, rfl, _, rfl, _, rfl, rfl, _, rfl, _, rfl, rfl, _, rfl, _, rfl, _, rfl, p, _, _, _, rfl, rfl, SqT.of hp, atI_nat (j := 1) rfl, _, _, rfl, rfl, Same.refl _, pc, pl, rfl, hc, hl⟩
      case rais n => exact ⟨_, rfl, rfl, _, rfl, _, rfl, rfl, _, rfl, _, rfl, rfl, _, rfl, _, rfl, rfl, _, rfl, _, rfl, _, rfl, p, _, _, _, rfl, rfl, SqT.of hp, atI_nat (j := 1) rfl, _, _, rfl, Same.refl _, pc, pl, rfl, hc, hl⟩
      case give n =>
        refine ⟨_, rfl, rfl, _, rfl, _, rfl, rfl, _, rfl, _, rfl, rfl, _, rfl, _, rfl, rfl, _, rfl, _, rfl, rfl, _, rfl, ?_⟩
        refine ⟨_, rfl, _, rfl, p, _, _, _, rfl, rfl, SqT.of hp, atI_nat (j := 1) rfl, (by show 1 ≤ sizeLine; decide), fun u2 hu2 => ?_⟩
        have s2 := Sd.Same.new (o := .tup [.int n]) hu2
        refine Sd.cat_rL (s2 _ _ hl) upd_same (by rw [List.length_map]; show _ + 1 ≤ 10001; omega) fun u3 H3 s3 hu3 => ?_
        refine ⟨s2.trans s3, pc, u3, rfl, (s2.trans s3) _ _ hc, ?_⟩
        rw [hu3]
        show some (HO.tup _) = some (HO.tup ((s.line ++ [n]).map V.int))
        rw [List.map_append]
        rfl
      case take =>
        refine ⟨_, rfl, rfl, _, rfl, _, rfl, rfl, _, rfl, _, rfl, rfl, _, rfl, _, rfl, rfl, _, rfl, _, rfl, rfl, _, rfl, _, rfl, rfl, _, rfl, ?_⟩
        refine ⟨_, rfl, _, rfl, ?_⟩
        dsimp only [tNoPart]
        refine Sd.slice_r hl fun u1 H1 s1 hu1 => ?_
        refine ⟨s1, pc, u1, rfl, s1 _ _ hc, ?_⟩
        rw [hu1]
        show some (HO.tup (cutV (s.line.map V.int) (some ((1 : Nat) : Int)) none)) = some (HO.tup ((s.line.drop 1).map V.int))
        rw [Sd.cut_drop, List.map_drop]
      all_goals exact ⟨_, rfl, rfl, _, rfl, _, rfl, rfl, _, rfl, _, rfl, rfl, _, rfl, _, rfl, rfl, _, rfl, _, rfl, rfl, _, rfl, _, rfl, rfl, _, rfl, Same.refl _, pc, pl, rfl, hc, hl⟩
    · rintro σ' H' ⟨s1, u1, u2, rfl, h1, h2⟩
      refine ⟨_, rfl, _, rfl, _, rfl, _, rfl, _, rfl, (by show 5 ≤ sizeLine; decide), fun z hz => ?_⟩
      exact q _ _ (s1.trans (Sd.Same.new hz)) ⟨z, u1, u2, rfl, upd_same, Sd.Same.new hz _ _ h1, Sd.Same.new hz _ _ h2⟩
end

/-! the law's own five things: its defs -/
section
variable {P : Program} {w : World} {K : PySem.W.Frag} {mg : Str → Option Value} {base : Heap} {A_Plain : Addr}
abbrev N_l_plain : List Str := ["_law_many"]
theorem sc_l_plain : FnScope N_l_plain ["_law_many"] (defScope s_l_plain) := ⟨rfl, rfl, rfl, by decide +kernel, rfl, by decide +kernel, by decide +kernel⟩
theorem ok_l_plain {f : Addr} {fd : FuncData} (F : Fun K "_law_plain" "_law_plain" s_l_plain f fd) (T : Dr K mg)
    : FnOk P w K mg base CX0 1 f fd ["_law_many"] (Sd.spLPlain) := by
  refine F.ok sc_l_plain (fun vs H Q E h => ?_) (fun cdv A outer s H vs Q E hr h => ?_)
  · obtain ⟨m, rfl, _⟩ := h
    rfl
  · obtain ⟨m, rfl, hm, q⟩ := h
    refine ⟨_, (pss_one (ps_ret (pe_disp (pps_cons pe_str pe_int (pps_cons pe_str (pe_op op_rep (pe_lst (pa_cons pe_int pa_nil)) (pv 0)) (pps_cons pe_str (pe_op op_rep (pe_lst (pa_cons pe_int pa_nil)) (pv 0)) (pps_cons pe_str (pe_op op_rep (pe_lst (pa_cons pe_int pa_nil)) (pv 0)) (pps_cons pe_str (pe_lst pa_nil) pps_nil))))) (by rfl) (by rfl) (fun z => by cases z) (by decide)))), ?_⟩
    refine fun d hd => ?_
    have sd := Sd.Same.new (o := .dK []) hd
    have cd : upd H d (.dK []) d = some (.dK []) := upd_same
    generalize upd H d (.dK []) = H0 at sd cd ⊢
    refine ⟨(by show 1 ≤ sizeLine; decide), fun l1 hl1 => ⟨_, rfl, l1, _, _, rfl, rfl, upd_same, by omega, by omega, Sd.size1 (by omega) (by omega), fun a1 ha1 => ?_⟩⟩
    have s1 := (Sd.Same.new (o := .lst [.int 0]) hl1).trans (Sd.Same.new (o := .lst (List.replicate ((m : Nat) : Int).toNat [V.int 0]).flatten) ha1)
    have f1 : H0 a1 = none := (Sd.Same.new (o := .lst [.int 0]) hl1).free ha1
    have c1 : upd (upd H0 l1 (.lst [.int 0])) a1 (.lst (List.replicate ((m : Nat) : Int).toNat [V.int 0]).flatten) a1 = some (.lst ((List.replicate m (0 : Int)).map V.int)) := by rw [upd_same, Int.toNat_natCast, Sd.rep_flat]
    generalize upd (upd H0 l1 (.lst [.int 0])) a1 (.lst (List.replicate ((m : Nat) : Int).toNat [V.int 0]).flatten) = H1 at s1 c1 ⊢
    refine ⟨(by show 1 ≤ sizeLine; decide), fun l2 hl2 => ⟨_, rfl, l2, _, _, rfl, rfl, upd_same, by omega, by omega, Sd.size1 (by omega) (by omega), fun a2 ha2 => ?_⟩⟩
    have s2 := (Sd.Same.new (o := .lst [.int 0]) hl2).trans (Sd.Same.new (o := .lst (List.replicate ((m : Nat) : Int).toNat [V.int 0]).flatten) ha2)
    have f2 : H1 a2 = none := (Sd.Same.new (o := .lst [.int 0]) hl2).free ha2
    have c2 : upd (upd H1 l2 (.lst [.int 0])) a2 (.lst (List.replicate ((m : Nat) : Int).toNat [V.int 0]).flatten) a2 = some (.lst ((List.replicate m (0 : Int)).map V.int)) := by rw [upd_same, Int.toNat_natCast, Sd.rep_flat]
    generalize upd (upd H1 l2 (.lst [.int 0])) a2 (.lst (List.replicate ((m : Nat) : Int).toNat [V.int 0]).flatten) = H2 at s2 c2 ⊢
    refine ⟨(by show 1 ≤ sizeLine; decide), fun l3 hl3 => ⟨_, rfl, l3, _, _, rfl, rfl, upd_same, by omega, by omega, Sd.size1 (by omega) (by omega), fun a3 ha3 => ?_⟩⟩
    have s3 := (Sd.Same.new (o := .lst [.int 0]) hl3).trans (Sd.Same.new (o := .lst (List.replicate ((m : Nat) : Int).toNat [V.int 0]).flatten) ha3)
    have f3 : H2 a3 = none := (Sd.Same.new (o := .lst [.int 0]) hl3).free ha3
    have c3 : upd (upd H2 l3 (.lst [.int 0])) a3 (.lst (List.replicate ((m : Nat) : Int).toNat [V.int 0]).flatten) a3 = some (.lst ((List.replicate m (0 : Int)).map V.int)) := by rw [upd_same, Int.toNat_natCast, Sd.rep_flat]
    generalize upd (upd H2 l3 (.lst [.int 0])) a3 (.lst (List.replicate ((m : Nat) : Int).toNat [V.int 0]).flatten) = H3 at s3 c3 ⊢
    refine ⟨(by show 0 ≤ sizeLine; decide), fun a4 ha4 => ?_⟩
    have s4 := Sd.Same.new (o := .lst []) ha4
    have c4 : upd H3 a4 (.lst []) a4 = some (.lst (([] : List Int).map V.int)) := upd_same
    generalize upd H3 a4 (.lst []) = H4 at s4 c4 ⊢
    have s04 := ((s1.trans s2).trans s3).trans s4
    refine ⟨s04 _ _ cd, [(Sum.inr "ones", .int 0), (Sum.inr "set", .ref a1), (Sum.inr "add", .ref a2), (Sum.inr "raise", .ref a3), (Sum.inr "line", .ref a4)], rfl, (by show 5 ≤ 15; decide), ?_⟩
    have k1 : d ≠ a1 := ne_of (s04 _ _ cd) (((s2.trans s3).trans s4) _ _ c1) (by intro z; cases z)
    have k2 : d ≠ a2 := ne_of (s04 _ _ cd) ((s3.trans s4) _ _ c2) (by intro z; cases z)
    have k3 : d ≠ a3 := ne_of (s04 _ _ cd) (s4 _ _ c3) (by intro z; cases z)
    have k4 : d ≠ a4 := ne_of (s04 _ _ cd) c4 (by intro z; cases z)
    have f4 : H3 a4 = none := ha4
    have n12 : a1 ≠ a2 := ne_of_none c1 f2
    have n13 : a1 ≠ a3 := ne_of_none (s2 _ _ c1) f3
    have n14 : a1 ≠ a4 := ne_of_none ((s2.trans s3) _ _ c1) f4
    have n23 : a2 ≠ a3 := ne_of_none c2 f3
    have n24 : a2 ≠ a4 := ne_of_none (s3 _ _ c2) f4
    have n34 : a3 ≠ a4 := ne_of_none c3 f4
    refine q d a1 a2 a3 a4 _ ?_ (fun b o e => ?_) ⟨?_, ?_, ?_, ?_, ?_, n12, n13, n14, n23, n24, n34⟩
    · intro x hx
      simp only [List.mem_cons, List.not_mem_nil, or_false] at hx
      rcases hx with rfl | rfl | rfl | rfl | rfl
      · exact hd
      · exact sd.free f1
      · exact (sd.trans s1).free f2
      · exact ((sd.trans s1).trans s2).free f3
      · exact (((sd.trans s1).trans s2).trans s3).free f4
    · rw [upd_ne (ne_of_none e hd)]
      exact (sd.trans s04) _ _ e
    · rw [upd_same]
      rfl
    · rw [upd_ne k1.symm]
      exact ((s2.trans s3).trans s4) _ _ c1
    · rw [upd_ne k2.symm]
      exact (s3.trans s4) _ _ c2
    · rw [upd_ne k3.symm]
      exact s4 _ _ c3
    · rw [upd_ne k4.symm]
      exact c4
abbrev N_l_at_once : List Str := ["_law_plain_here", "_law_hand", "_law_deed_here", "_law_word"]
theorem sc_l_at_once : FnScope N_l_at_once ["_law_plain_here", "_law_hand", "_law_deed_here"] (defScope s_l_at_once) := ⟨rfl, rfl, rfl, by decide +kernel, rfl, by decide +kernel, by decide +kernel⟩
theorem ok_l_at_once {f : Addr} {fd : FuncData} (F : Fun K "_law_at_once" "_law_at_once" s_l_at_once f fd) (T : (Txt K mg A_Plain))
    : FnOk P w K mg base CX0 1 f fd ["_law_plain_here", "_law_hand", "_law_deed_here"] (Sd.spAtOnce) := by
  refine F.ok sc_l_at_once (fun vs H Q E h => ?_) (fun cdv A outer s H vs Q E hr h => ?_)
  · obtain ⟨d, a1, a2, a3, a4, p, s, h, m, dd, rfl, _⟩ := h
    rfl
  · obtain ⟨d, a1, a2, a3, a4, p, s, h, m, dd, rfl, hL, hp, hok, hm, hh, hdd, hln, q⟩ := h
    refine ⟨_, (pss_cons (ps_set (i := 3) sc_l_at_once.nd rfl (Or.inl rfl) (pe_ix ix_tup (pv 2) pe_int (fun _ _ => rfl)))
      (C8.pss_cut (ps_if (pt_cmpR op_eq (pv 3) pe_str (nomark _))
      (pss_one (ps_dput (hu_of hr) (pv 0) pe_str (pe_op op_add (pe_dget (hu_of hr) (pv 0) pe_str (fun _ _ => rfl)) pe_int) rfl))
      (pss_one (ps_if (pt_cmpR op_eq (pv 3) pe_str (nomark _))
      (pss_one (ps_asg (pe_ix ix_tup (pv 2) pe_int (fun _ _ => rfl)) (pg_sub (pe_dget (hu_of hr) (pv 0) pe_str (fun _ _ => rfl)) (pv 1) set_list)))
      (pss_one (ps_if (pt_cmpR op_eq (pv 3) pe_str (nomark _))
      (pss_one (ps_asg (pe_op op_add (pe_ix ix_list (pe_dget (hu_of hr) (pv 0) pe_str (fun _ _ => rfl)) (pv 1) (fun _ _ => rfl)) (pe_ix ix_tup (pv 2) pe_int (fun _ _ => rfl))) (pg_sub (pe_dget (hu_of hr) (pv 0) pe_str (fun _ _ => rfl)) (pv 1) set_list)))
      (pss_one (ps_if (pt_cmpR op_eq (pv 3) pe_str (nomark _))
      (pss_one (ps_asg (pe_callB (call_max2 rfl) (by rfl) T.max (by decide +kernel) (pa_cons (pe_ix ix_list (pe_dget (hu_of hr) (pv 0) pe_str (fun _ _ => rfl)) (pv 1) (fun _ _ => rfl)) (pa_cons (pe_ix ix_tup (pv 2) pe_int (fun _ _ => rfl)) pa_nil))) (pg_sub (pe_dget (hu_of hr) (pv 0) pe_str (fun _ _ => rfl)) (pv 1) set_list)))
      (pss_one (ps_if (pt_cmpR op_eq (pv 3) pe_str (nomark _))
      (pss_one (ps_expr (pe_bm PySem.F.plainAttrs_list PySem.F.slot_list_append PySem.F.type_list_append mt_append (pe_dget (hu_of hr) (pv 0) pe_str (fun _ _ => rfl)) (pa_cons (pe_ix ix_tup (pv 2) pe_int (fun _ _ => rfl)) pa_nil))))
      (pss_one (ps_if (pt_cmpR op_eq (pv 3) pe_str (nomark _))
      (pss_one (ps_ret (pe_dget (hu_of hr) (pv 0) pe_str (fun _ _ => rfl))))
      (pss_one (ps_if (pt_cmpR op_eq (pv 3) pe_str (nomark _))
      (pss_one (ps_ret (pe_callTy call_tuple_of (by rfl) T.tuple (by decide +kernel) (pa_cons (pe_dget (hu_of hr) (pv 0) pe_str (fun _ _ => rfl)) pa_nil))))
      (pss_one (ps_if (pt_cmpR op_eq (pv 3) pe_str (nomark _))
      (pss_one (ps_ret (pe_callB (cr_sum rfl) (by rfl) T.sum (by decide +kernel) (pa_cons (pe_dget (hu_of hr) (pv 0) pe_str (fun _ _ => rfl)) pa_nil))))
      (pss_one (ps_if (pt_cmpR op_eq (pv 3) pe_str (nomark _))
      (pss_one (ps_ret (pe_callB (cr_max rfl) (by rfl) T.max (by decide +kernel) (pa_cons (pe_dget (hu_of hr) (pv 0) pe_str (fun _ _ => rfl)) pa_nil))))
      (pss_one (ps_if (pt_cmpR (op_neD hr.units) (pe_dget (hu_of hr) (pv 0) pe_str (fun _ _ => rfl)) (pe_lst pa_nil) (nomark _))
      (pss_one (ps_ret (pe_bm PySem.F.plainAttrs_list PySem.F.slot_list_pop PySem.F.type_list_pop mt_popAt (pe_dget (hu_of hr) (pv 0) pe_str (fun _ _ => rfl)) (pa_cons pe_int pa_nil))))
      pss_nil)))))))))))))))))))
      (pss_one (ps_ret pe_non)))), ?_⟩
    refine ⟨_, rfl, p, _, _, _, rfl, rfl, SqT.of hp, dd.at0, ?_⟩
    refine ⟨fun σ' H' => (s.behind h dd).At H' d a1 a2 a3 a4 ∧ Sd.Off [d, a1, a2, a3, a4] H H' ∧ s.ans dd = .non, ?_, fun σ' H' ⟨h1, h2, h3⟩ => q _ H' (by rw [h3]; rfl) h1 h2⟩
    have hadd := hok.adds
    have htop := hok.tops
    have hcl := hok.cells
    have ga : s.adds[h]? = some (s.adds.getD h 0) := by rw [List.getElem?_eq_getElem (by omega), List.getD_eq_getElem?_getD, List.getElem?_eq_getElem (by omega)]; rfl
    have gt : s.tops[h]? = some (s.tops.getD h 0) := by rw [List.getElem?_eq_getElem (by omega), List.getD_eq_getElem?_getD, List.getElem?_eq_getElem (by omega)]; rfl
    cases dd
    case one =>
      refine ⟨_, rfl, rfl, _, rfl, _, rfl, d, _, rfl, DGet.k (k := Sum.inr "ones") hL.d, _, _, rfl, rfl, _, rfl, d, _, rfl, DPut.k (k := Sum.inr "ones") hL.d (by show 5 < sizeLine; decide), ?_⟩
      exact ⟨hL.setD _, Sd.Off.upd (by simp), rfl⟩
    case set n =>
      refine ⟨_, rfl, rfl, _, rfl, _, rfl, rfl, _, rfl, _, rfl, p, _, _, _, rfl, rfl, SqT.of hp, atI_nat (j := 1) rfl, _, rfl, d, _, rfl, DGet.k (k := Sum.inr "set") hL.d, _, rfl, a1, _, _, h, rfl, rfl, hL.c1, Sd.ixN_nat (by rw [List.length_map]; omega), ?_⟩
      rw [← List.map_set]
      exact ⟨hL.set1 _, Sd.Off.upd (by simp), rfl⟩
    case add n =>
      refine ⟨_, rfl, rfl, _, rfl, _, rfl, rfl, _, rfl, _, rfl, rfl, _, rfl, _, rfl, d, _, rfl, DGet.k (k := Sum.inr "add") hL.d, _, rfl, a2, _, _, _, rfl, rfl, SqL.of hL.c2, atI_nat (Sd.ints_get ga), _, rfl, p, _, _, _, rfl, rfl, SqT.of hp, atI_nat (j := 1) rfl, _, _, rfl, rfl, _, rfl, d, _, rfl, DGet.k (k := Sum.inr "add") hL.d, _, rfl, a2, _, _, h, rfl, rfl, hL.c2, Sd.ixN_nat (by rw [List.length_map]; omega), ?_⟩
      rw [← List.map_set]
      exact ⟨hL.set2 _, Sd.Off.upd (by simp), rfl⟩
    case rais n =>
      refine ⟨_, rfl, rfl, _, rfl, _, rfl, rfl, _, rfl, _, rfl, rfl, _, rfl, _, rfl, rfl, _, rfl, _, rfl, d, _, rfl, DGet.k (k := Sum.inr "raise") hL.d, _, rfl, a3, _, _, _, rfl, rfl, SqL.of hL.c3, atI_nat (Sd.ints_get gt), _, rfl, p, _, _, _, rfl, rfl, SqT.of hp, atI_nat (j := 1) rfl, _, _, rfl, _, rfl, d, _, rfl, DGet.k (k := Sum.inr "raise") hL.d, _, rfl, a3, _, _, h, rfl, rfl, hL.c3, Sd.ixN_nat (by rw [List.length_map]; omega), ?_⟩
      rw [← List.map_set]
      exact ⟨hL.set3 _, Sd.Off.upd (by simp), rfl⟩
    case give n =>
      refine ⟨_, rfl, rfl, _, rfl, _, rfl, rfl, _, rfl, _, rfl, rfl, _, rfl, _, rfl, rfl, _, rfl, _, rfl, rfl, _, rfl, _, rfl, d, _, rfl, DGet.k (k := Sum.inr "line") hL.d, .inl ⟨rfl, _, SqL.of hL.c4⟩, _, rfl, p, _, _, _, rfl, rfl, SqT.of hp, atI_nat (j := 1) rfl, a4, _, _, rfl, rfl, hL.c4, ?_, ?_⟩
      · rw [List.length_map]
        exact Nat.lt_trans hln (by decide)
      · have e : s.line.map V.int ++ [V.int n] = (s.line ++ [n]).map V.int := by rw [List.map_append]; rfl
        rw [e]
        exact ⟨hL.set4 _, Sd.Off.upd (by simp), rfl⟩
    case count => exact ⟨_, rfl, rfl, _, rfl, _, rfl, rfl, _, rfl, _, rfl, rfl, _, rfl, _, rfl, rfl, _, rfl, _, rfl, rfl, _, rfl, _, rfl, rfl, _, rfl, _, rfl, d, _, rfl, DGet.k (k := Sum.inr "ones") hL.d, q _ _ rfl hL (Sd.Off.refl _ _)⟩
    case look =>
      refine ⟨_, rfl, rfl, _, rfl, _, rfl, rfl, _, rfl, _, rfl, rfl, _, rfl, _, rfl, rfl, _, rfl, _, rfl, rfl, _, rfl, _, rfl, rfl, _, rfl, _, rfl, rfl, _, rfl, _, rfl, d, _, rfl, DGet.k (k := Sum.inr "set") hL.d, a1, _, rfl, .inl ⟨SqL.of hL.c1, fun t ht => ?_⟩⟩
      exact q _ _ ⟨t, rfl, upd_same⟩ (hL.off (F := []) (Sd.Off.of_same (Sd.Same.new ht)) (by simp)) (Sd.Off.of_same (Sd.Same.new ht))
    case sum => exact ⟨_, rfl, rfl, _, rfl, _, rfl, rfl, _, rfl, _, rfl, rfl, _, rfl, _, rfl, rfl, _, rfl, _, rfl, rfl, _, rfl, _, rfl, rfl, _, rfl, _, rfl, rfl, _, rfl, _, rfl, rfl, _, rfl, _, rfl, d, _, rfl, DGet.k (k := Sum.inr "add") hL.d, a2, _, rfl, SqL.of hL.c2, q _ _ rfl hL (Sd.Off.refl _ _)⟩
    case top =>
      refine ⟨_, rfl, rfl, _, rfl, _, rfl, rfl, _, rfl, _, rfl, rfl, _, rfl, _, rfl, rfl, _, rfl, _, rfl, rfl, _, rfl, _, rfl, rfl, _, rfl, _, rfl, rfl, _, rfl, _, rfl, rfl, _, rfl, _, rfl, rfl, _, rfl, _, rfl, d, _, rfl, DGet.k (k := Sum.inr "raise") hL.d, a3, _, rfl, SqL.of hL.c3, by omega, fun mx hm1 hm2 => q _ _ ?_ hL (Sd.Off.refl _ _)⟩
      rw [Sd.top0_of hok.tops0 hm1 hm2]
      rfl
    case take =>
      refine ⟨_, rfl, rfl, _, rfl, _, rfl, rfl, _, rfl, _, rfl, rfl, _, rfl, _, rfl, rfl, _, rfl, _, rfl, rfl, _, rfl, _, rfl, rfl, _, rfl, _, rfl, rfl, _, rfl, _, rfl, rfl, _, rfl, _, rfl, rfl, _, rfl, _, rfl, d, _, rfl, DGet.k (k := Sum.inr "line") hL.d, (by show 0 ≤ sizeLine; decide), fun e he => ?_⟩
      have s1 : Same H (upd H e (.lst [])) := Sd.Same.new he
      have ce : upd H e (.lst []) e = some (.lst (([] : List Int).map V.int)) := upd_same
      have L1 := hL.off (F := []) (Sd.Off.of_same s1) (by simp)
      generalize upd H e (.lst []) = H1 at s1 ce L1 ⊢
      refine ⟨Sd.dInts s.line, Sd.dInts [], Sd.dInts_dp (SqL.of L1.c4), Sd.dInts_dp (SqL.of ce), Sd.dInts_shaped _, Sd.dInts_shaped _, _, rfl, ?_⟩
      obtain ⟨ones, cells, adds, tops, line⟩ := s
      cases line with
      | nil => exact ⟨L1, Sd.Off.of_same s1, rfl⟩
      | cons g r =>
        refine ⟨_, rfl, d, _, rfl, DGet.k (k := Sum.inr "line") L1.d, .inl ⟨rfl, _, SqL.of L1.c4⟩, a4, _, _, 0, _, rfl, rfl, L1.c4, by decide, by decide, seqIndex_of (by decide) (by show (0 : Int) < _; rw [List.length_map, List.length_cons]; omega), rfl, ?_⟩
        exact q _ _ rfl (L1.set4 r) ((Sd.Off.of_same s1).trans (Sd.Off.upd (by simp)))
end

/-! the law's sameness of answers, kinds too -/
section
variable {P : Program} {w : World} {K : PySem.W.Frag} {mg : Str → Option Value} {base : Heap} {A_Plain : Addr}
abbrev N_l_same : List Str := ["_law_found", "_law_due", "_law_one", "_law_own"]
theorem sc_l_same : FnScope N_l_same ["_law_found", "_law_due"] (defScope s_l_same) := ⟨rfl, rfl, rfl, by decide +kernel, rfl, by decide +kernel, by decide +kernel⟩
theorem ok_l_same_flat {f : Addr} {fd : FuncData} (F : Fun K "_law_same" "_law_same" s_l_same f fd) (T : (Txt K mg A_Plain))
    : FnOk P w K mg base CX0 1 f fd ["_law_found", "_law_due"] (Sd.spSameF) := by
  refine F.ok sc_l_same (fun vs H Q E h => ?_) (fun cdv A outer s H vs Q E hr h => ?_)
  · obtain ⟨u, a, rfl, _⟩ := h
    rfl
  · obtain ⟨u, a, rfl, ha, hf, q⟩ := h
    refine ⟨_, (pss_cons (ps_if (pt_cmpR op_isN (pv 1) pe_non (nomark _))
      (pss_one (ps_ret (pe_cmpR op_isN (pv 0) pe_non (nomark _))))
      pss_nil)
      (pss_cons (ps_if (pt_val (pe_callB call_isi (by rfl) T.isinstance (by decide +kernel) (pa_cons (pv 1) (pa_cons (pe_bltn (v := .ty "tuple") (u := .type "tuple") (by rfl) T.tuple (by decide +kernel) rfl) pa_nil))))
      (pss_cons (ps_if (PW.pt (pw_or (pt_not (pt_val (pe_callB call_isi (by rfl) T.isinstance (by decide +kernel) (pa_cons (pv 0) (pa_cons (pe_bltn (v := .ty "tuple") (u := .type "tuple") (by rfl) T.tuple (by decide +kernel) rfl) pa_nil))))) (pw_or1 (pt_cmpR op_ne (pe_callB call_len_seq (by rfl) T.len (by decide +kernel) (pa_cons (pv 0) pa_nil)) (pe_callB call_len_seq (by rfl) T.len (by decide +kernel) (pa_cons (pv 1) pa_nil)) (nomark _)))))
      (pss_one (ps_ret pe_bl))
      pss_nil)
      (pss_cons ps_never
      (pss_one (ps_ret pe_bl))))
      pss_nil)
      (pss_cons (ps_if (pt_val (pe_callB call_isi (by rfl) T.isinstance (by decide +kernel) (pa_cons (pv 1) (pa_cons (pe_bltn (v := .ty "str") (u := .type "str") (by rfl) T.str (by decide +kernel) rfl) pa_nil))))
      (pss_one (ps_ret (pe_and (pe_callB call_isi (by rfl) T.isinstance (by decide +kernel) (pa_cons (pv 0) (pa_cons (pe_bltn (v := .ty "str") (u := .type "str") (by rfl) T.str (by decide +kernel) rfl) pa_nil))) (pe_one (pe_cmpR op_eq (pv 0) (pv 1) (nomark _))))))
      pss_nil)
      (pss_one (ps_ret (pe_and (pe_callB call_isi (by rfl) T.isinstance (by decide +kernel) (pa_cons (pv 0) (pa_cons (pe_bltn (v := .ty "int") (u := .type "int") (by rfl) T.int (by decide +kernel) rfl) pa_nil))) (pe_and (pe_not (pe_callB call_isi (by rfl) T.isinstance (by decide +kernel) (pa_cons (pv 0) (pa_cons (pe_bltn (v := .ty "bool") (u := .type "bool") (by rfl) T.bool (by decide +kernel) rfl) pa_nil)))) (pe_one (pe_cmpR op_eq (pv 0) (pv 1) (nomark _)))))))))), ?_⟩
    rcases a with _ | n | cs
    · cases (show u = .non from ha)
      exact ⟨_, rfl, rfl, _, rfl, _, rfl, rfl, q⟩
    · cases (show u = .int n from ha)
      refine ⟨_, rfl, rfl, _, rfl, ?_⟩
      refine ⟨_, rfl, _, _, _, _, false, rfl, .ty _, Sd.ty_int, kit_ty (by decide +kernel), false, rfl, ?_⟩
      refine ⟨_, rfl, _, _, _, _, false, rfl, .ty _, Sd.ty_int, kit_ty (by decide +kernel), false, rfl, ?_⟩
      refine ⟨_, rfl, _, _, _, _, true, rfl, .ty _, Sd.ty_int, kit_ty (by decide +kernel), true, rfl, ?_⟩
      refine ⟨_, rfl, _, _, _, _, false, rfl, .ty _, Sd.ty_int, kit_ty (by decide +kernel), false, rfl, _, rfl, ?_⟩
      refine ⟨_, rfl, _, rfl, rfl, ?_⟩
      rw [decide_eq_true rfl]
      exact q
    · exact (hf cs rfl).elim
theorem ok_l_same {f : Addr} {fd : FuncData} (F : Fun K "_law_same" "_law_same" s_l_same f fd) (T : (Txt K mg A_Plain))
    (C_l_same_flat : Sd.Cal P w K mg base CX0 1 "_law_same" ["_law_found", "_law_due"] (Sd.spSameF))
    : FnOk P w K mg base CX0 2 f fd ["_law_found", "_law_due"] (Sd.spSame) := by
  refine F.ok sc_l_same (fun vs H Q E h => ?_) (fun cdv A outer s H vs Q E hr h => ?_)
  · obtain ⟨u, v, a, rfl, _⟩ := h
    rfl
  · obtain ⟨u, v, a, rfl, ha, hb, q⟩ := h
    refine ⟨_, (pss_cons (ps_if (pt_cmpR op_isN (pv 1) pe_non (nomark _))
      (pss_one (ps_ret (pe_cmpR op_isN (pv 0) pe_non (nomark _))))
      pss_nil)
      (pss_cons (ps_if (pt_val (pe_callB call_isi (by rfl) T.isinstance (by decide +kernel) (pa_cons (pv 1) (pa_cons (pe_bltn (v := .ty "tuple") (u := .type "tuple") (by rfl) T.tuple (by decide +kernel) rfl) pa_nil))))
      (pss_cons (ps_if (PW.pt (pw_or (pt_not (pt_val (pe_callB call_isi (by rfl) T.isinstance (by decide +kernel) (pa_cons (pv 0) (pa_cons (pe_bltn (v := .ty "tuple") (u := .type "tuple") (by rfl) T.tuple (by decide +kernel) rfl) pa_nil))))) (pw_or1 (pt_cmpR op_ne (pe_callB call_len_seq (by rfl) T.len (by decide +kernel) (pa_cons (pv 0) pa_nil)) (pe_callB call_len_seq (by rfl) T.len (by decide +kernel) (pa_cons (pv 1) pa_nil)) (nomark _)))))
      (pss_one (ps_ret pe_bl))
      pss_nil)
      (pss_cons (ps_for PassesOwn.never rfl (RZ.pi_zipA rfl T.zip (pa_cons (pv 0) (pa_cons (pv 1) pa_nil))) (pg_tup (by rfl) (pgs_cons (pg_name (i := 2) sc_l_same.nd rfl (Or.inl rfl)) (pgs_cons (pg_name (i := 3) sc_l_same.nd rfl (Or.inl rfl)) pgs_nil)))
      (pss_one (ps_if (pt_not (pt_val (Sd.pe_fn C_l_same_flat (hr.mono (by decide)) pass0 (pa_cons (pv 2) (pa_cons (pv 3) pa_nil)))))
      (pss_one (ps_ret pe_bl))
      pss_nil)))
      (pss_one (ps_ret pe_bl))))
      pss_nil)
      (pss_cons (ps_if (pt_val (pe_callB call_isi (by rfl) T.isinstance (by decide +kernel) (pa_cons (pv 1) (pa_cons (pe_bltn (v := .ty "str") (u := .type "str") (by rfl) T.str (by decide +kernel) rfl) pa_nil))))
      (pss_one (ps_ret (pe_and (pe_callB call_isi (by rfl) T.isinstance (by decide +kernel) (pa_cons (pv 0) (pa_cons (pe_bltn (v := .ty "str") (u := .type "str") (by rfl) T.str (by decide +kernel) rfl) pa_nil))) (pe_one (pe_cmpR op_eq (pv 0) (pv 1) (nomark _))))))
      pss_nil)
      (pss_one (ps_ret (pe_and (pe_callB call_isi (by rfl) T.isinstance (by decide +kernel) (pa_cons (pv 0) (pa_cons (pe_bltn (v := .ty "int") (u := .type "int") (by rfl) T.int (by decide +kernel) rfl) pa_nil))) (pe_and (pe_not (pe_callB call_isi (by rfl) T.isinstance (by decide +kernel) (pa_cons (pv 0) (pa_cons (pe_bltn (v := .ty "bool") (u := .type "bool") (by rfl) T.bool (by decide +kernel) rfl) pa_nil)))) (pe_one (pe_cmpR op_eq (pv 0) (pv 1) (nomark _)))))))))), ?_⟩
    rcases a with _ | n | cs
    · cases (show u = .non from ha)
      cases (show v = .non from hb)
      exact ⟨_, rfl, rfl, _, rfl, _, rfl, rfl, q _ (Same.refl _)⟩
    · cases (show u = .int n from ha)
      cases (show v = .int n from hb)
      refine ⟨_, rfl, rfl, _, rfl, ?_⟩
      refine ⟨_, rfl, _, _, _, _, false, rfl, .ty _, Sd.ty_int, kit_ty (by decide +kernel), false, rfl, ?_⟩
      refine ⟨_, rfl, _, _, _, _, false, rfl, .ty _, Sd.ty_int, kit_ty (by decide +kernel), false, rfl, ?_⟩
      refine ⟨_, rfl, _, _, _, _, true, rfl, .ty _, Sd.ty_int, kit_ty (by decide +kernel), true, rfl, ?_⟩
      refine ⟨_, rfl, _, _, _, _, false, rfl, .ty _, Sd.ty_int, kit_ty (by decide +kernel), false, rfl, _, rfl, ?_⟩
      refine ⟨_, rfl, _, rfl, rfl, ?_⟩
      rw [decide_eq_true rfl]
      exact q _ (Same.refl _)
    · obtain ⟨p1, rfl, h1⟩ := ha
      obtain ⟨p2, rfl, h2⟩ := hb
      refine ⟨_, rfl, rfl, _, rfl, ?_⟩
      refine ⟨_, rfl, _, _, _, _, true, rfl, .ty _, .base (.tup h2), kit_ty (by decide +kernel), true, rfl, ?_⟩
      refine ⟨_, rfl, _, _, _, _, true, rfl, .ty _, .base (.tup h1), kit_ty (by decide +kernel), true, rfl, ?_⟩
      refine ⟨_, rfl, p1, _, rfl, .inr (SqT.of h1), _, rfl, p2, _, rfl, .inr (SqT.of h2), rfl, _, rfl, iteNS rfl ?_⟩
      refine ⟨_, rfl, _, rfl, p1, p2, _, _, rfl, .inr ⟨SqT.of h1, SqT.of h2, ?_⟩⟩
      refine RZ.for_zipT (K := K) (xs := cs.map V.int) (ys := cs.map V.int) rfl (fun i σ H' => Same H H' ∧ ∃ x y, σ = [some (.ref p1), some (.ref p2), x, y]) ⟨Same.refl _, none, none, rfl⟩ (fun i σ H' h => ⟨SqT.of (h.1 _ _ h1), SqT.of (h.1 _ _ h2)⟩) ?_ (fun σ H' h => q _ h.1)
      rintro i x y T σ H' hx hy ⟨s1, x0, y0, rfl⟩ hT
      obtain ⟨v, hv, rfl⟩ := Sd.ints_got hx
      rw [hx] at hy
      cases hy
      refine ⟨T, _, rfl, SqT.of upd_same, rfl, _, _, rfl, _, _, rfl, rfl, ?_⟩
      refine ⟨_, rfl, _, rfl, _, .int v, rfl, rfl, (fun cs z => by cases z), true, rfl, ?_⟩
      exact ⟨s1.trans (Sd.Same.new hT), _, _, rfl⟩
end

section
variable {P : Program} {w : World} {K : PySem.W.Frag} {mg : Str → Option Value} {base : Heap} {A_Plain : Addr}
abbrev N_Plain__init_ : List Str := ["self", "many"]
theorem sc_Plain__init_ : FnScope N_Plain__init_ ["self", "many"] (defScope s_Plain__init_) := ⟨rfl, rfl, rfl, by decide +kernel, rfl, by decide +kernel, by decide +kernel⟩
theorem ok_Plain__init_ {f : Addr} {fd : FuncData} (F : Fun K "__init__" "Plain.__init__" s_Plain__init_ f fd) (T : (Txt K mg A_Plain))
    (C_first_state : Sd.Cal P w K mg base CX0 1 "first_state" ["many"] (Sd.spFirst))
    : FnOk P w K mg base CX0 2 f fd ["self", "many"] (Sd.spPInit A_Plain) := by
  refine F.ok sc_Plain__init_ (fun vs H Q E h => ?_) (fun cdv A outer s H vs Q E hr h => ?_)
  · obtain ⟨p, dx, m, rfl, _⟩ := h
    rfl
  · obtain ⟨p, dx, m, rfl, h0, h1, hp, q⟩ := h
    refine ⟨_, (pss_one (ps_fld (pv 0) (Sd.pe_fn C_first_state (hr.mono (by decide)) pass0 (pa_cons (pv 1) pa_nil)) rfl)), ?_⟩
    refine ⟨_, rfl, m, rfl, h0, h1, fun v H1 s1 hv => ?_⟩
    refine ⟨_, rfl, p, A_Plain, dx, [], rfl, s1 _ _ hp, T.cl_Plain, T.n_Plain__state, (by show 0 < 1000; decide), ?_⟩
    exact q _ (fun b o n e => by rw [upd_ne n]; exact s1 _ _ e) ⟨dx, v, upd_same, hv.ins (s1 _ _ hp)⟩
abbrev N_Plain_done : List Str := ["self", "hand", "deed", "answer"]
theorem sc_Plain_done : FnScope N_Plain_done ["self", "hand", "deed"] (defScope s_Plain_done) := ⟨rfl, rfl, rfl, by decide +kernel, rfl, by decide +kernel, by decide +kernel⟩
theorem ok_Plain_done {f : Addr} {fd : FuncData} (F : Fun K "done" "Plain.done" s_Plain_done f fd) (T : (Txt K mg A_Plain))
    (C_answer_in : Sd.Cal P w K mg base CX0 1 "answer_in" ["state", "deed"] (Sd.spAnsIn))
    (C_state_behind : Sd.Cal P w K mg base CX0 1 "state_behind" ["state", "hand", "deed"] (Sd.spBehind))
    : FnOk P w K mg base CX0 2 f fd ["self", "hand", "deed"] (Sd.spDone A_Plain) := by
  refine F.ok sc_Plain_done (fun vs H Q E h => ?_) (fun cdv A outer s H vs Q E hr h => ?_)
  · obtain ⟨b, p, s, h, m, d, rfl, _⟩ := h
    rfl
  · obtain ⟨b, p, s, h, m, d, rfl, ⟨dx, v, hb, hv⟩, hp, hok, hm, hh, q⟩ := h
    refine ⟨_, (pss_cons (ps_set (i := 3) sc_Plain_done.nd rfl (Or.inl rfl) (Sd.pe_fn C_answer_in (hr.mono (by decide)) pass0 (pa_cons (pe_fld (pv 0) rfl) (pa_cons (pv 2) pa_nil))))
      (pss_cons (ps_fld (pv 0) (Sd.pe_fn C_state_behind (hr.mono (by decide)) pass0 (pa_cons (pe_fld (pv 0) rfl) (pa_cons (pv 1) (pa_cons (pv 2) pa_nil)))) rfl)
      (pss_one (ps_ret (pv 3))))), ?_⟩
    refine ⟨_, rfl, b, A_Plain, dx, _, _, rfl, hb, T.cl_Plain, T.n_Plain__state, Sd.fsS_at v, _, rfl, v, p, s, d, rfl, hv, hp, hok.line, fun u hu => ?_⟩
    refine ⟨_, rfl, b, A_Plain, dx, _, _, rfl, hb, T.cl_Plain, T.n_Plain__state, Sd.fsS_at v, _, rfl, _, rfl, v, p, s, h, m, d, rfl, hv, hp, hok, hm, hh, fun v2 H2 s2 hv2 => ?_⟩
    refine ⟨_, rfl, b, A_Plain, dx, _, rfl, s2 _ _ hb, T.cl_Plain, T.n_Plain__state, (by show 1 < 1000; decide), ?_⟩
    refine ⟨_, rfl, q _ _ ((hu.same s2).ins (s2 _ _ hb)) ⟨dx, v2, upd_same, hv2.ins (s2 _ _ hb)⟩ (fun c o n e => by rw [upd_ne n]; exact s2 _ _ e)⟩
end

/-! the law -/
structure A5 where
  d : Addr
  a1 : Addr
  a2 : Addr
  a3 : Addr
  a4 : Addr
abbrev A5.list (A : A5) : List Addr := [A.d, A.a1, A.a2, A.a3, A.a4]
structure Sep (H0 : Hp) (d wl tl pl : Addr) (b : Bool → Addr) (A : Bool → A5) : Prop where
  fd : H0 d = none
  fb : ∀ k, H0 (b k) = none
  fA : ∀ k, ∀ x ∈ (A k).list, H0 x = none
  dw : d ≠ wl
  dt : d ≠ tl
  dp : d ≠ pl
  nb : b true ≠ b false
  dA : ∀ k, d ∉ (A k).list
  wA : ∀ k, wl ∉ (A k).list
  tA : ∀ k, tl ∉ (A k).list
  pA : ∀ k, pl ∉ (A k).list
  bA : ∀ k j, b j ∉ (A k).list
  AA : ∀ k j, k ≠ j → ∀ x ∈ (A k).list, x ∉ (A j).list
structure J (K : PySem.W.Frag) (C a d wl tl pl : Addr) (b : Bool → Addr) (A : Bool → A5) (ns : List Int) (m i : Nat) (H : Hp) (s : Bool → Sd.St5) (l : Bool → Sd.L5) : Prop where
  D : Sd.Dice H d a
  S : SqL K H a (ns.map V.int)
  W : H wl = some (.lst (Sd.words10.map V.str))
  TL : H tl = some (.lst [.ref (b false), .ref (b true)])
  PL : H pl = some (.lst [.ref (A false).d, .ref (A true).d])
  P : ∀ k, Sd.PlainAt C H (b k) (s k)
  L : ∀ k, (l k).At H (A k).d (A k).a1 (A k).a2 (A k).a3 (A k).a4
  sim : ∀ k, Sd.Sim (s k) (l k)
  ok : ∀ k, (l k).Ok m
  len : ∀ k, (l k).line.length ≤ i
theorem SqL.off {K : PySem.W.Frag} {H0 H H' : Hp} {a : Addr} {xs : List V} {F : List Addr} (h0 : SqL K H0 a xs) (hF : ∀ x ∈ F, H0 x = none) (h : SqL K H a xs) (s : Sd.Off F H H') : SqL K H' a xs := by
  rcases h0 with h0 | h0
  · have n : a ∉ F := by
      rcases h0 with h0 | ⟨u, h0⟩
      · exact Sd.free_ne hF h0
      · exact Sd.free_ne hF h0
    rcases h with (h | ⟨o, h⟩) | h
    · exact .inl (.inl (s _ _ n h))
    · exact .inl (.inr ⟨o, s _ _ n h⟩)
    · exact .inr h
  · exact .inr h0
theorem PlainAt.off {C : Addr} {H H' : Hp} {b : Addr} {s : Sd.St5} {F : List Addr} (h : Sd.PlainAt C H b s) (o : Sd.Off F H H') (n : b ∉ F) (ft : ∀ x ∈ F, ∀ xs, H x ≠ some (.tup xs)) : Sd.PlainAt C H' b s := by
  obtain ⟨dx, v, hb, t, pc, pl, rfl, h1, h2, h3⟩ := h
  have nf : ∀ {x : Addr} {xs : List V}, H x = some (.tup xs) → x ∉ F := fun e m => ft _ m _ e
  exact ⟨dx, _, o _ _ n hb, t, pc, pl, rfl, o _ _ (nf h1) h1, o _ _ (nf h2) h2, o _ _ (nf h3) h3⟩
section
variable {K : PySem.W.Frag} {C a d wl tl pl : Addr} {b : Bool → Addr} {A : Bool → A5} {ns : List Int} {m i : Nat} {H0 H H' : Hp} {s : Bool → Sd.St5} {l : Bool → Sd.L5}
/-- the draws' list alone changes -/
theorem J.draw (j : J K C a d wl tl pl b A ns m i H s l) (p : Sep H0 d wl tl pl b A) (S0 : SqL K H0 a (ns.map V.int)) (D : Sd.Dice H' d a) (o : Sd.Off [d] H H') : J K C a d wl tl pl b A ns m i H' s l := by
  obtain ⟨_, _, _, hd⟩ := id j.D
  have nd : ∀ {x : Addr}, d ≠ x → x ∉ [d] := fun n m => n (List.mem_singleton.mp m).symm
  refine ⟨D, SqL.off S0 (by simpa using p.fd) j.S o, o _ _ (nd p.dw) j.W, o _ _ (nd p.dt) j.TL, o _ _ (nd p.dp) j.PL, fun k => PlainAt.off (j.P k) o ?_ ?_, fun k => (j.L k).off o ?_, j.sim, j.ok, j.len⟩
  · obtain ⟨dx, v, hb, _⟩ := j.P k
    exact nd (ne_of hd hb (by intro z; cases z))
  · intro x hx xs e
    rw [List.mem_singleton.mp hx, hd] at e
    cases e
  · intro x hx
    exact nd fun z => p.dA k (z ▸ hx)
theorem J.same (j : J K C a d wl tl pl b A ns m i H s l) (e : Same H H') : J K C a d wl tl pl b A ns m i H' s l :=
  ⟨j.D.same e, e.seq j.S, e _ _ j.W, e _ _ j.TL, e _ _ j.PL, fun k => PlainAt.off (F := []) (j.P k) (Sd.Off.of_same e) (by simp) (by simp), fun k => (j.L k).off (F := []) (Sd.Off.of_same e) (by simp), j.sim, j.ok, j.len⟩
theorem Off.but {x : Addr} (h : Sd.But x H H') : Sd.Off [x] H H' := fun c o n e => h c o (fun z => n (by rw [z]; exact List.mem_singleton.mpr rfl)) e
end
section
variable {P : Program} {w : World} {K : PySem.W.Frag} {mg : Str → Option Value} {base : Heap} {A_Plain : Addr}
abbrev N_l_words : List Str := []
theorem sc_l_words : FnScope N_l_words [] (defScope s_l_words) := ⟨rfl, rfl, rfl, by decide +kernel, rfl, by decide +kernel, by decide +kernel⟩
theorem ok_l_words {f : Addr} {fd : FuncData} (F : Fun K "_law_words" "_law_words" s_l_words f fd) (T : (Txt K mg A_Plain))
    : FnOk P w K mg base CX0 1 f fd [] (Sd.spWords) := by
  refine F.ok sc_l_words (fun vs H Q E h => ?_) (fun cdv A outer s H vs Q E hr h => ?_)
  · obtain ⟨rfl, _⟩ := h
    rfl
  · obtain ⟨rfl, q⟩ := h
    refine ⟨_, (pss_one (ps_ret (pe_lst (pa_cons pe_str (pa_cons pe_str (pa_cons pe_str (pa_cons pe_str (pa_cons pe_str (pa_cons pe_str (pa_cons pe_str (pa_cons pe_str (pa_cons pe_str (pa_cons pe_str pa_nil))))))))))))), ?_⟩
    exact ⟨(by show 10 ≤ sizeLine; decide), fun p hp => q p _ hp (Sd.Same.new hp) upd_same⟩
abbrev N_law : List Str := ["_law_script", "_law_many", "_law_things", "_law_plains", "_law_words_here", "_law_d", "_law_turn", "_law_deed_here", "_law_hand", "_law_which", "_law_found"]
theorem sc_law : FnScope N_law ["_law_script"] (defScope s_law) := ⟨rfl, rfl, rfl, by decide +kernel, rfl, by decide +kernel, by decide +kernel⟩
theorem ok_law {f : Addr} {fd : FuncData} (F : Fun K "law" "law" s_law f fd) (T : (Txt K mg A_Plain))
    (C_l_cell : Sd.Cal P w K mg base CX0 1 "_law_cell" ["_law_script", "_law_k"] (Sd.spCell K))
    (C_l_dice : Sd.Cal P w K mg base CX0 2 "_law_dice" ["_law_script", "_law_k"] (Sd.spDice K))
    (C_l_off : Sd.Cal P w K mg base CX0 2 "_law_off" ["_law_d", "_law_most"] (Sd.spOff K))
    (C_l_deed : Sd.Cal P w K mg base CX0 3 "_law_deed" ["_law_d", "_law_word"] (Sd.spLDeed K))
    (C_l_plain : Sd.Cal P w K mg base CX0 1 "_law_plain" ["_law_many"] (Sd.spLPlain))
    (C_l_at_once : Sd.Cal P w K mg base CX0 1 "_law_at_once" ["_law_plain_here", "_law_hand", "_law_deed_here"] (Sd.spAtOnce))
    (C_l_same : Sd.Cal P w K mg base CX0 2 "_law_same" ["_law_found", "_law_due"] (Sd.spSame))
    (C_l_words : Sd.Cal P w K mg base CX0 1 "_law_words" [] (Sd.spWords))
    (C_Plain : Sd.CalI P w K mg base CX0 2 "Plain" A_Plain ["self", "many"] (Sd.spPInit A_Plain))
    (C_Plain_done : Sd.CalM P w K mg base CX0 2 A_Plain "done" ["self", "hand", "deed"] (Sd.spDone A_Plain))
    : FnOk P w K mg base CX0 5 f fd ["_law_script"] (spLaw K) := by
  refine F.ok sc_law (fun vs H Q E h => ?_) (fun cdv A outer s H vs Q E hr h => ?_)
  · obtain ⟨a, ns, rfl, _⟩ := h
    rfl
  · obtain ⟨a, ns, rfl, hS, hlen, q⟩ := h
    refine ⟨_, (pss_cons (ps_set (i := 1) sc_law.nd rfl (Or.inl rfl) (pe_op op_add pe_int (pe_op op_mod (pe_callB call_abs (by rfl) T.abs (by decide +kernel) (pa_cons (Sd.pe_fn C_l_cell (hr.mono (by decide)) pass0 (pa_cons (pv 0) (pa_cons pe_int pa_nil))) pa_nil)) pe_int)))
      (pss_cons (ps_set (i := 2) sc_law.nd rfl (Or.inl rfl) (pe_lst (pa_cons (Sd.pe_mk C_Plain (hr.mono (by decide)) pass0 (pa_cons (pv 1) pa_nil)) (pa_cons (Sd.pe_mk C_Plain (hr.mono (by decide)) pass0 (pa_cons (pv 1) pa_nil)) pa_nil))))
      (pss_cons (ps_set (i := 3) sc_law.nd rfl (Or.inl rfl) (pe_lst (pa_cons (Sd.pe_fn C_l_plain (hr.mono (by decide)) pass0 (pa_cons (pv 1) pa_nil)) (pa_cons (Sd.pe_fn C_l_plain (hr.mono (by decide)) pass0 (pa_cons (pv 1) pa_nil)) pa_nil))))
      (pss_cons (ps_set (i := 4) sc_law.nd rfl (Or.inl rfl) (Sd.pe_fn0 C_l_words (hr.mono (by decide)) pass0))
      (pss_cons (ps_set (i := 5) sc_law.nd rfl (Or.inl rfl) (Sd.pe_fn C_l_dice (hr.mono (by decide)) pass0 (pa_cons (pv 0) (pa_cons pe_int pa_nil))))
      (pss_cons (ps_for PassesOwn.never rfl (pi_range1 rfl T.range (pa_cons (pe_op op_mod (pe_callB call_abs (by rfl) T.abs (by decide +kernel) (pa_cons (Sd.pe_fn C_l_cell (hr.mono (by decide)) pass0 (pa_cons (pv 0) (pa_cons pe_int pa_nil))) pa_nil)) pe_int) pa_nil)) (pg_name (i := 6) sc_law.nd rfl (Or.inl rfl))
      (pss_cons (ps_set (i := 7) sc_law.nd rfl (Or.inl rfl) (Sd.pe_fn C_l_deed (hr.mono (by decide)) pass0 (pa_cons (pv 5) (pa_cons (pe_ix ix_list (pv 4) (Sd.pe_fn C_l_off (hr.mono (by decide)) pass0 (pa_cons (pv 5) (pa_cons pe_int pa_nil))) (fun _ _ => rfl)) pa_nil))))
      (pss_cons (ps_set (i := 8) sc_law.nd rfl (Or.inl rfl) (pe_op op_mul (Sd.pe_fn C_l_off (hr.mono (by decide)) pass0 (pa_cons (pv 5) (pa_cons (pv 1) pa_nil))) (pe_callTy call_int1 (by rfl) T.int (by decide +kernel) (pa_cons (pe_cmpR op_ne (pe_ix ix_tup (pv 7) pe_int (fun _ _ => rfl)) pe_str (nomark _)) pa_nil))))
      (pss_cons (ps_set (i := 9) sc_law.nd rfl (Or.inl rfl) (pe_callTy call_int1 (by rfl) T.int (by decide +kernel) (pa_cons (pe_cmpR op_eq (Sd.pe_fn C_l_off (hr.mono (by decide)) pass0 (pa_cons (pv 5) (pa_cons pe_int pa_nil))) pe_int (nomark _)) pa_nil)))
      (pss_cons (ps_set (i := 10) sc_law.nd rfl (Or.inl rfl) (Sd.pe_mt C_Plain_done (hr.mono (by decide)) pass0 (pe_ix ix_list (pv 2) (pv 9) (fun _ _ => rfl)) (pa_cons (pv 8) (pa_cons (pv 7) pa_nil))))
      (pss_one (ps_if (pt_not (pt_val (Sd.pe_fn C_l_same (hr.mono (by decide)) pass0 (pa_cons (pv 10) (pa_cons (Sd.pe_fn C_l_at_once (hr.mono (by decide)) pass0 (pa_cons (pe_ix ix_list (pv 3) (pv 9) (fun _ _ => rfl)) (pa_cons (pv 8) (pa_cons (pv 7) pa_nil)))) pa_nil)))))
      (pss_one (ps_ret pe_bl))
      pss_nil)))))))
      (pss_one (ps_ret pe_bl)))))))), ?_⟩
    refine ⟨_, rfl, a, ns, 0, rfl, by decide, hS, fun v => ⟨v, rfl, _, _, rfl, rfl, (by show (0 : Int) < 4; decide), _, _, rfl, rfl, ?_⟩⟩
    dsimp only
    have hN0 : 0 ≤ (if v < 0 then -v else v) % 4 := Int.emod_nonneg _ (by decide)
    have hN1 : (if v < 0 then -v else v) % 4 < 4 := Int.emod_lt_of_pos _ (by decide)
    obtain ⟨m, hm⟩ := Int.eq_ofNat_of_zero_le (show 0 ≤ 1 + (if v < 0 then -v else v) % 4 by omega)
    rw [hm]
    have m1 : 1 ≤ m := by omega
    have m4 : m ≤ 4 := by omega
    -- two of them, and two of the law's
    refine ⟨_, rfl, fun b0 dx0 nb0 ndx0 nx0 => ⟨b0, dx0, m, rfl, m1, by omega, upd_same, fun H1 bt1 P0 => ⟨rfl, ?_⟩⟩⟩
    have s1 : Same H H1 := Sd.made_same nb0 ndx0 bt1
    refine ⟨_, rfl, fun b1 dx1 nb1 ndx1 nx1 => ⟨b1, dx1, m, rfl, m1, by omega, upd_same, fun H2 bt2 P1 => ⟨rfl, ?_⟩⟩⟩
    have s2 : Same H1 H2 := Sd.made_same nb1 ndx1 bt2
    have hb0 := P0
    obtain ⟨_, _, hb0', _⟩ := P0
    obtain ⟨_, _, hb1', _⟩ := id P1
    refine ⟨(by show 2 ≤ sizeLine; decide), fun tl htl => ?_⟩
    have s3 := Sd.Same.new (o := .lst [.ref b0, .ref b1]) htl
    have c3 : upd H2 tl (.lst [.ref b0, .ref b1]) tl = some (.lst [.ref b0, .ref b1]) := upd_same
    generalize upd H2 tl (.lst [.ref b0, .ref b1]) = H3 at s3 c3 ⊢
    refine ⟨_, rfl, m, rfl, by omega, fun d0 x1 x2 x3 x4 H4 f4 s4 L0 => ?_⟩
    refine ⟨_, rfl, m, rfl, by omega, fun d1 y1 y2 y3 y4 H5 f5 s5 L1 => ?_⟩
    refine ⟨(by show 2 ≤ sizeLine; decide), fun pl hpl => ?_⟩
    have s6 := Sd.Same.new (o := .lst [.ref d0, .ref d1]) hpl
    have c6 : upd H5 pl (.lst [.ref d0, .ref d1]) pl = some (.lst [.ref d0, .ref d1]) := upd_same
    generalize upd H5 pl (.lst [.ref d0, .ref d1]) = H6 at s6 c6 ⊢
    refine ⟨rfl, fun wl H7 hwl s7 c7 => ?_⟩
    have s17 : Same H H6 := (((((s1.trans s2).trans s3).trans s4).trans s5).trans s6)
    have S7 : SqL K H7 a (ns.map V.int) := (s17.trans s7).seq hS
    refine ⟨_, rfl, a, ns, 1, rfl, by decide, S7, fun d H8 hd s8 bt8 D8 o8 => ?_⟩
    have S8 : SqL K H8 a (ns.map V.int) := s8.seq S7
    -- what stands apart
    have free : ∀ {G G' : Hp} {F : List Addr}, (∀ x ∈ F, G' x = none) → Same G G' → ∀ x ∈ F, G x = none := fun f s x hx => s.free (f x hx)
    have sep : Sep H d wl tl pl (fun k => bif k then b1 else b0) (fun k => bif k then ⟨d1, y1, y2, y3, y4⟩ else ⟨d0, x1, x2, x3, x4⟩) := by
      have t4 : ∀ x ∈ [d0, x1, x2, x3, x4], ∃ o, H4 x = some o := by
        intro x hx
        simp only [List.mem_cons, List.not_mem_nil, or_false] at hx
        rcases hx with rfl | rfl | rfl | rfl | rfl
        · exact ⟨_, L0.d⟩
        · exact ⟨_, L0.c1⟩
        · exact ⟨_, L0.c2⟩
        · exact ⟨_, L0.c3⟩
        · exact ⟨_, L0.c4⟩
      have t5 : ∀ x ∈ [d1, y1, y2, y3, y4], ∃ o, H5 x = some o := by
        intro x hx
        simp only [List.mem_cons, List.not_mem_nil, or_false] at hx
        rcases hx with rfl | rfl | rfl | rfl | rfl
        · exact ⟨_, L1.d⟩
        · exact ⟨_, L1.c1⟩
        · exact ⟨_, L1.c2⟩
        · exact ⟨_, L1.c3⟩
        · exact ⟨_, L1.c4⟩
      have tne : ∀ {G : Hp} {F : List Addr} {p : Addr}, (∀ x ∈ F, ∃ o, G x = some o) → G p = none → p ∉ F := fun t n m => by
        obtain ⟨o, e⟩ := t _ m
        rw [n] at e
        cases e
      have h47 : ∀ x ∈ [d0, x1, x2, x3, x4], ∃ o, H7 x = some o := fun x hx => by
        obtain ⟨o, e⟩ := t4 x hx
        exact ⟨o, ((s5.trans s6).trans s7) _ _ e⟩
      have h57 : ∀ x ∈ [d1, y1, y2, y3, y4], ∃ o, H7 x = some o := fun x hx => by
        obtain ⟨o, e⟩ := t5 x hx
        exact ⟨o, (s6.trans s7) _ _ e⟩
      have h46 : ∀ x ∈ [d0, x1, x2, x3, x4], ∃ o, H6 x = some o := fun x hx => by
        obtain ⟨o, e⟩ := t4 x hx
        exact ⟨o, (s5.trans s6) _ _ e⟩
      have h45 : ∀ x ∈ [d0, x1, x2, x3, x4], ∃ o, H5 x = some o := fun x hx => by
        obtain ⟨o, e⟩ := t4 x hx
        exact ⟨o, s5 _ _ e⟩
      have e01 : ∀ x ∈ [d0, x1, x2, x3, x4], x ∉ [d1, y1, y2, y3, y4] := fun x hx => by
        obtain ⟨o, e⟩ := t4 x hx
        exact Sd.free_ne f5 e
      have e10 : ∀ x ∈ [d1, y1, y2, y3, y4], x ∉ [d0, x1, x2, x3, x4] := fun x hx hy => e01 x hy hx
      refine ⟨(s17.trans s7).free hd, ?_, ?_, ne_of_none c7 hd |>.symm, ne_of_none (((((s4.trans s5).trans s6).trans s7)) _ _ c3) hd |>.symm, ne_of_none (s7 _ _ c6) hd |>.symm, (ne_of_none hb0' nb1).symm, ?_, ?_, ?_, ?_, ?_, ?_⟩
      · intro k
        cases k
        · exact nb0
        · exact s1.free nb1
      · intro k
        cases k
        · exact free f4 ((s1.trans s2).trans s3)
        · exact free f5 (((s1.trans s2).trans s3).trans s4)
      · intro k
        cases k
        · exact tne h47 hd
        · exact tne h57 hd
      · intro k
        cases k
        · exact tne h46 hwl
        · exact tne (fun x hx => (t5 x hx).imp fun o e => s6 _ _ e) hwl
      · intro k
        cases k
        · exact Sd.free_ne f4 c3
        · exact Sd.free_ne f5 (s4 _ _ c3)
      · intro k
        cases k
        · exact tne h45 hpl
        · exact tne t5 hpl
      · intro k j
        cases k <;> cases j
        · exact Sd.free_ne f4 ((s2.trans s3) _ _ hb0')
        · exact Sd.free_ne f4 (s3 _ _ hb1')
        · exact Sd.free_ne f5 (((s2.trans s3).trans s4) _ _ hb0')
        · exact Sd.free_ne f5 ((s3.trans s4) _ _ hb1')
      · intro k j n
        cases k <;> cases j
        · exact absurd rfl n
        · exact e01
        · exact e10
        · exact absurd rfl n
    have J8 : J K A_Plain a d wl tl pl (fun k => bif k then b1 else b0) (fun k => bif k then ⟨d1, y1, y2, y3, y4⟩ else ⟨d0, x1, x2, x3, x4⟩) ns m 0 H8 (fun _ => Sd.St5.first m) (fun _ => Sd.L5.first m) := by
      have s28 := (((((s3.trans s4).trans s5).trans s6).trans s7).trans s8)
      refine ⟨D8, S8, s8 _ _ c7, ((((s4.trans s5).trans s6).trans s7).trans s8) _ _ c3, (s7.trans s8) _ _ c6, ?_, ?_, fun _ => Sd.Sim.first m, fun _ => Sd.L5.Ok.first m, fun _ => Nat.le_refl _⟩
      · intro k
        cases k
        · exact PlainAt.off (F := []) hb0 (Sd.Off.of_same (s2.trans s28)) (by simp) (by simp)
        · exact PlainAt.off (F := []) P1 (Sd.Off.of_same s28) (by simp) (by simp)
      · intro k
        cases k
        · exact L0.off (F := []) (Sd.Off.of_same (((s5.trans s6).trans s7).trans s8)) (by simp)
        · exact L1.off (F := []) (Sd.Off.of_same ((s6.trans s7).trans s8)) (by simp)
    generalize (fun k => bif k then b1 else b0) = b at sep J8
    generalize (fun k => bif k then (⟨d1, y1, y2, y3, y4⟩ : A5) else ⟨d0, x1, x2, x3, x4⟩) = A at sep J8
    refine ⟨_, rfl, a, ns, 2, rfl, by decide, S8, fun v2 => ⟨v2, rfl, _, _, rfl, rfl, (by show (0 : Int) < 41; decide), ?_⟩⟩
    have t0 := Int.emod_nonneg (if v2 < 0 then -v2 else v2) (b := 41) (by decide)
    have t1 := Int.emod_lt_of_pos (if v2 < 0 then -v2 else v2) (b := 41) (by decide)
    refine ⟨_, rfl, by omega, by omega, ?_⟩
    refine for_range (lo := 0) (n := _) (fun i σ H' => ∃ (s : Bool → Sd.St5) (l : Bool → Sd.L5) (v6 v7 v8 v9 v10 : Option V), σ = [some (.ref a), some (.int m), some (.ref tl), some (.ref pl), some (.ref wl), some (.ref d), v6, v7, v8, v9, v10] ∧ J K A_Plain a d wl tl pl b A ns m i H' s l)
      ⟨_, _, none, none, none, none, none, rfl, J8⟩ ?_ (fun σ H' _ => q H')
    rintro i σ H' hi ⟨s, l, v6, v7, v8, v9, v10, rfl, j⟩
    -- the deed
    refine ⟨_, rfl, _, rfl, _, rfl, d, a, ns, 10, rfl, j.D, j.S, by decide, by decide, fun r G1 r0 r1 D1 o1 => ?_⟩
    have j1 := j.draw sep hS D1 (fun c u n e => by rw [o1 c (fun z => n (by rw [z]; exact List.mem_singleton.mpr rfl))]; exact e)
    obtain ⟨rn, hrn⟩ := Int.eq_ofNat_of_zero_le r0
    have hr10 : rn < Sd.words10.length := by show rn < 10; omega
    refine ⟨wl, _, _, _, rfl, rfl, SqL.of j1.W, at_of hrn (by rw [List.getElem?_map, List.getElem?_eq_getElem hr10]; rfl), d, a, ns, _, rfl, List.getElem_mem hr10, j1.D, j1.S, fun p G2 dd ew ok hp hp2 D2 bt2 => ?_⟩
    have j2 := j1.draw sep hS D2 (Off.but bt2)
    -- the hand
    refine ⟨_, rfl, _, rfl, d, a, ns, m, rfl, j2.D, j2.S, by omega, by omega, fun r2 G3 r20 r21 D3 o3 => ?_⟩
    have of3 : Sd.Off [d] G2 G3 := fun c u n e => by rw [o3 c (fun z => n (by rw [z]; exact List.mem_singleton.mpr rfl))]; exact e
    have j3 := j2.draw sep hS D3 of3
    obtain ⟨_, _, _, hd2⟩ := j2.D
    have npd : p ≠ d := ne_of hp2 hd2 (by intro z; cases z)
    have hp3 : G3 p = some (.tup dd.vals) := by rw [o3 p npd]; exact hp2
    refine ⟨_, rfl, p, _, _, _, rfl, rfl, SqT.of hp3, dd.at0, rfl, .inr ⟨_, rfl, _, _, rfl, rfl, .inr (Sd.b01 _), ?_⟩⟩
    obtain ⟨hn, hhn, hlt⟩ : ∃ hn : Nat, r2 * (if (!decide (V.str dd.word = V.str "take")) = true then 1 else 0) = (hn : Int) ∧ hn < m := by
      obtain ⟨rn2, rfl⟩ := Int.eq_ofNat_of_zero_le r20
      cases (!decide (V.str dd.word = V.str "take"))
      · exact ⟨0, by rw [if_neg Bool.false_ne_true, Int.mul_zero]; rfl, by omega⟩
      · exact ⟨rn2, by rw [if_pos rfl, Int.mul_one], by omega⟩
    dsimp only
    rw [hhn]
    -- which
    refine ⟨_, rfl, d, a, ns, 4, rfl, j3.D, j3.S, by decide, by decide, fun r4 G4 r40 r41 D4 o4 => ?_⟩
    have of4 : Sd.Off [d] G3 G4 := fun c u n e => by rw [o4 c (fun z => n (by rw [z]; exact List.mem_singleton.mpr rfl))]; exact e
    have j4 := j3.draw sep hS D4 of4
    have hp4 : G4 p = some (.tup dd.vals) := by rw [o4 p npd]; exact hp3
    refine ⟨rfl, .inr ⟨_, rfl, ?_⟩⟩
    generalize decide (V.int r4 = V.int 0) = k
    have atT : atI [V.ref (b false), V.ref (b true)] (if k = true then 1 else 0) = some (.ref (b k)) := by
      cases k
      · exact atI_nat (j := 0) rfl
      · exact atI_nat (j := 1) rfl
    have atP : atI [V.ref (A false).d, V.ref (A true).d] (if k = true then 1 else 0) = some (.ref (A k).d) := by
      cases k
      · exact atI_nat (j := 0) rfl
      · exact atI_nat (j := 1) rfl
    -- done
    obtain ⟨dxk, vk, hbk, hvk⟩ := id (j4.P k)
    have okk := j4.ok k
    have simk := j4.sim k
    have lenk := j4.len k
    have st5 : (s k).Ok m := ⟨by rw [simk.cells]; exact okk.cells, by rw [simk.line]; exact okk.line⟩
    refine ⟨_, rfl, _, rfl, tl, _, _, _, rfl, rfl, SqL.of j4.TL, atT, b k, dxk, _, rfl, hbk, Sd.fsS_no vk (by decide +kernel), _, rfl, _, rfl, b k, p, s k, hn, m, dd, rfl, j4.P k, hp4, st5, by omega, hlt, fun u G5 hu P5 bt5 => ?_⟩
    have of5 : Sd.Off [b k] G4 G5 := Off.but bt5
    have nbx : ∀ {x : Addr} {xs : List V}, G4 x = some (.lst xs) → x ∉ [b k] := fun e mm => by
      rw [List.mem_singleton.mp mm, hbk] at e
      cases e
    have ntx : ∀ x ∈ [b k], ∀ xs, G4 x ≠ some (.tup xs) := fun x mm xs e => by
      rw [List.mem_singleton.mp mm, hbk] at e
      cases e
    have hp5 : G5 p = some (.tup dd.vals) := of5 _ _ (fun mm => ntx _ mm _ hp4) hp4
    have L5k := (j4.L k).off of5 (fun x hx mm => sep.bA k k (by rw [← List.mem_singleton.mp mm]; exact hx))
    have PL5 := of5 _ _ (nbx j4.PL) j4.PL
    -- the law's own
    refine ⟨_, rfl, _, rfl, _, rfl, pl, _, _, _, rfl, rfl, SqL.of PL5, atP, _, rfl, _, rfl, (A k).d, (A k).a1, (A k).a2, (A k).a3, (A k).a4, p, l k, hn, m, dd, rfl, L5k, hp5, okk, m1, hlt, ok, by omega, fun u2 G6 hu2 L6 of6 => ?_⟩
    have nA : ∀ {x : Addr} {xs : List V}, G5 x = some (.tup xs) → x ∉ [(A k).d, (A k).a1, (A k).a2, (A k).a3, (A k).a4] := fun e mm => by
      simp only [List.mem_cons, List.not_mem_nil, or_false] at mm
      rcases mm with rfl | rfl | rfl | rfl | rfl
      · rw [L5k.d] at e; cases e
      · rw [L5k.c1] at e; cases e
      · rw [L5k.c2] at e; cases e
      · rw [L5k.c3] at e; cases e
      · rw [L5k.c4] at e; cases e
    have hu6 : ((s k).ans dd).At G6 u := by
      cases h : (s k).ans dd with
      | non => rw [h] at hu; exact hu
      | int n => rw [h] at hu; exact hu
      | view cs =>
        rw [h] at hu
        obtain ⟨pv, e, hv⟩ := hu
        exact ⟨pv, e, of6 _ _ (nA hv) hv⟩
    refine ⟨u, u2, (s k).ans dd, rfl, hu6, by rw [simk.ans dd]; exact hu2, fun G7 s7' => ?_⟩
    refine ⟨true, rfl, ?_⟩
    -- the next turn
    have nAx : ∀ x ∈ (A k).list, ∀ xs, G5 x ≠ some (.tup xs) := fun x mm xs e => nA e mm
    have J6 : J K A_Plain a d wl tl pl b A ns m (i + 1) G6 (fun j => if j = k then (s k).behind hn dd else s j) (fun j => if j = k then (l k).behind hn dd else l j) := by
      obtain ⟨_, _, _, hd4⟩ := id j4.D
      have D5 : Sd.Dice G5 d a := by
        obtain ⟨e1, e2, e3, hd4⟩ := j4.D
        exact ⟨e1, e2, e3, of5 _ _ (nbx hd4) hd4⟩
      have D6 : Sd.Dice G6 d a := by
        obtain ⟨e1, e2, e3, hd5⟩ := D5
        exact ⟨e1, e2, e3, of6 _ _ (sep.dA k) hd5⟩
      refine ⟨D6, SqL.off hS (sep.fA k) (SqL.off hS (by simpa using sep.fb k) j4.S of5) of6, of6 _ _ (sep.wA k) (of5 _ _ (nbx j4.W) j4.W), of6 _ _ (sep.tA k) (of5 _ _ (nbx j4.TL) j4.TL), of6 _ _ (sep.pA k) PL5, ?_, ?_, ?_, ?_, ?_⟩
      · intro j
        by_cases e : j = k
        · rw [if_pos e, e]
          exact PlainAt.off P5 of6 (sep.bA k k) nAx
        · rw [if_neg e]
          refine PlainAt.off (PlainAt.off (j4.P j) of5 ?_ ntx) of6 (sep.bA k j) nAx
          intro mm
          have := List.mem_singleton.mp mm
          have nb := sep.nb
          cases j <;> cases k
          · exact e rfl
          · exact nb this.symm
          · exact nb this
          · exact e rfl
      · intro j
        by_cases e : j = k
        · rw [if_pos e, e]
          exact L6
        · rw [if_neg e]
          refine ((j4.L j).off of5 ?_).off of6 (sep.AA j k e)
          intro x hx mm
          exact sep.bA j k (by rw [← List.mem_singleton.mp mm]; exact hx)
      · intro j
        by_cases e : j = k
        · rw [if_pos e, if_pos e]
          exact simk.behind okk hlt ok
        · rw [if_neg e, if_neg e]
          exact j4.sim j
      · intro j
        by_cases e : j = k
        · rw [if_pos e]
          exact okk.behind ok (by omega)
        · rw [if_neg e]
          exact j4.ok j
      · intro j
        by_cases e : j = k
        · rw [if_pos e]
          exact Nat.le_trans ((l k).len_behind hn dd) (by omega)
        · rw [if_neg e]
          exact Nat.le_trans (j4.len j) (by omega)
    exact ⟨_, _, _, _, _, _, _, rfl, J6.same s7'⟩
end
theorem all_mk {l : PySem.W.OpenLaw} {w : World} {K : PySem.W.Frag} {h : Heap} {mg : Str → Option Value} {fa f1 f2 f3 f4 f5 f6 f7 f8 f9 f10 f11 f12 f13 f14 f15 A_Plain  : Addr} (X : K.In h) (G : h.Ns mainGlobals mg) (hfa : mg "law" = some (.ref fa))
    {od1 an1 od2 an2 od3 an3 od4 an4 od5 an5 od6 an6 od7 an7 od8 an8 od9 an9 od10 an10 od11 an11 od12 an12 od13 an13 od14 an14 od15 an15 : Option Addr} {sl1 sl2 sl3 sl4 sl5 sl6 sl7 sl8 sl9 sl10 sl11 sl12 sl13 sl14 sl15 : Array (Option Value)} {oc1 kV1 dc1 pm1 cd1 ct1 oc2 kV2 dc2 pm2 cd2 ct2 oc3 kV3 dc3 pm3 cd3 ct3 oc4 kV4 dc4 pm4 cd4 ct4 oc5 kV5 dc5 pm5 cd5 ct5 oc6 kV6 dc6 pm6 cd6 ct6 oc7 kV7 dc7 pm7 cd7 ct7 oc8 kV8 dc8 pm8 cd8 ct8 oc9 kV9 dc9 pm9 cd9 ct9 oc10 kV10 dc10 pm10 cd10 ct10 oc11 kV11 dc11 pm11 cd11 ct11 oc12 kV12 dc12 pm12 cd12 ct12 oc13 kV13 dc13 pm13 cd13 ct13 oc14 kV14 dc14 pm14 cd14 ct14 oc15 kV15 dc15 pm15 cd15 ct15 : Value}
    (a_Plain : PySem.W.nsIn K mainGlobals "Plain" = some (some (.ref A_Plain)))
    (a1 : PySem.W.nsIn K mainGlobals "_law_cell" = some (some (.ref f1)))
    (l1 : K.lookup f1 = some ⟨oc1, od1, .func (PySem.W.fnOf "_law_cell" "_law_cell" (defArgs s_l_cell) (defBody s_l_cell) (defScope s_l_cell) .none kV1 dc1 pm1 an1 cd1 ct1), sl1⟩)
    (c1 : PySem.W.codeIn K cd1 "_law_cell" = true)
    (k1 : PySem.W.keepIn K (.ref f1) = true)
    (a2 : PySem.W.nsIn K mainGlobals "_law_dice" = some (some (.ref f2)))
    (l2 : K.lookup f2 = some ⟨oc2, od2, .func (PySem.W.fnOf "_law_dice" "_law_dice" (defArgs s_l_dice) (defBody s_l_dice) (defScope s_l_dice) .none kV2 dc2 pm2 an2 cd2 ct2), sl2⟩)
    (c2 : PySem.W.codeIn K cd2 "_law_dice" = true)
    (k2 : PySem.W.keepIn K (.ref f2) = true)
    (a3 : PySem.W.nsIn K mainGlobals "_law_off" = some (some (.ref f3)))
    (l3 : K.lookup f3 = some ⟨oc3, od3, .func (PySem.W.fnOf "_law_off" "_law_off" (defArgs s_l_off) (defBody s_l_off) (defScope s_l_off) .none kV3 dc3 pm3 an3 cd3 ct3), sl3⟩)
    (c3 : PySem.W.codeIn K cd3 "_law_off" = true)
    (k3 : PySem.W.keepIn K (.ref f3) = true)
    (a4 : PySem.W.nsIn K mainGlobals "_law_deed" = some (some (.ref f4)))
    (l4 : K.lookup f4 = some ⟨oc4, od4, .func (PySem.W.fnOf "_law_deed" "_law_deed" (defArgs s_l_deed) (defBody s_l_deed) (defScope s_l_deed) .none kV4 dc4 pm4 an4 cd4 ct4), sl4⟩)
    (c4 : PySem.W.codeIn K cd4 "_law_deed" = true)
    (k4 : PySem.W.keepIn K (.ref f4) = true)
    (a5 : PySem.W.nsIn K mainGlobals "_law_plain" = some (some (.ref f5)))
    (l5 : K.lookup f5 = some ⟨oc5, od5, .func (PySem.W.fnOf "_law_plain" "_law_plain" (defArgs s_l_plain) (defBody s_l_plain) (defScope s_l_plain) .none kV5 dc5 pm5 an5 cd5 ct5), sl5⟩)
    (c5 : PySem.W.codeIn K cd5 "_law_plain" = true)
    (k5 : PySem.W.keepIn K (.ref f5) = true)
    (a6 : PySem.W.nsIn K mainGlobals "_law_at_once" = some (some (.ref f6)))
    (l6 : K.lookup f6 = some ⟨oc6, od6, .func (PySem.W.fnOf "_law_at_once" "_law_at_once" (defArgs s_l_at_once) (defBody s_l_at_once) (defScope s_l_at_once) .none kV6 dc6 pm6 an6 cd6 ct6), sl6⟩)
    (c6 : PySem.W.codeIn K cd6 "_law_at_once" = true)
    (k6 : PySem.W.keepIn K (.ref f6) = true)
    (a7 : PySem.W.nsIn K mainGlobals "_law_same" = some (some (.ref f7)))
    (l7 : K.lookup f7 = some ⟨oc7, od7, .func (PySem.W.fnOf "_law_same" "_law_same" (defArgs s_l_same) (defBody s_l_same) (defScope s_l_same) .none kV7 dc7 pm7 an7 cd7 ct7), sl7⟩)
    (c7 : PySem.W.codeIn K cd7 "_law_same" = true)
    (k7 : PySem.W.keepIn K (.ref f7) = true)
    (a8 : PySem.W.nsIn K mainGlobals "_law_same" = some (some (.ref f8)))
    (l8 : K.lookup f8 = some ⟨oc8, od8, .func (PySem.W.fnOf "_law_same" "_law_same" (defArgs s_l_same) (defBody s_l_same) (defScope s_l_same) .none kV8 dc8 pm8 an8 cd8 ct8), sl8⟩)
    (c8 : PySem.W.codeIn K cd8 "_law_same" = true)
    (k8 : PySem.W.keepIn K (.ref f8) = true)
    (a9 : PySem.W.nsIn K mainGlobals "_law_words" = some (some (.ref f9)))
    (l9 : K.lookup f9 = some ⟨oc9, od9, .func (PySem.W.fnOf "_law_words" "_law_words" (defArgs s_l_words) (defBody s_l_words) (defScope s_l_words) .none kV9 dc9 pm9 an9 cd9 ct9), sl9⟩)
    (c9 : PySem.W.codeIn K cd9 "_law_words" = true)
    (k9 : PySem.W.keepIn K (.ref f9) = true)
    (a10 : PySem.W.nsIn K mainGlobals "first_state" = some (some (.ref f10)))
    (l10 : K.lookup f10 = some ⟨oc10, od10, .func (PySem.W.fnOf "first_state" "first_state" (defArgs s_first_state) (defBody s_first_state) (defScope s_first_state) .none kV10 dc10 pm10 an10 cd10 ct10), sl10⟩)
    (c10 : PySem.W.codeIn K cd10 "first_state" = true)
    (k10 : PySem.W.keepIn K (.ref f10) = true)
    (a11 : PySem.W.nsIn K mainGlobals "answer_in" = some (some (.ref f11)))
    (l11 : K.lookup f11 = some ⟨oc11, od11, .func (PySem.W.fnOf "answer_in" "answer_in" (defArgs s_answer_in) (defBody s_answer_in) (defScope s_answer_in) .none kV11 dc11 pm11 an11 cd11 ct11), sl11⟩)
    (c11 : PySem.W.codeIn K cd11 "answer_in" = true)
    (k11 : PySem.W.keepIn K (.ref f11) = true)
    (a12 : PySem.W.nsIn K mainGlobals "state_behind" = some (some (.ref f12)))
    (l12 : K.lookup f12 = some ⟨oc12, od12, .func (PySem.W.fnOf "state_behind" "state_behind" (defArgs s_state_behind) (defBody s_state_behind) (defScope s_state_behind) .none kV12 dc12 pm12 an12 cd12 ct12), sl12⟩)
    (c12 : PySem.W.codeIn K cd12 "state_behind" = true)
    (k12 : PySem.W.keepIn K (.ref f12) = true)
    (a13 : PySem.W.findIn K (.ref A_Plain) "__init__" = some (some (.ref f13)))
    (i13 : PySem.W.isFn K (.ref f13) = true)
    (l13 : K.lookup f13 = some ⟨oc13, od13, .func (PySem.W.fnOf "__init__" "Plain.__init__" (defArgs s_Plain__init_) (defBody s_Plain__init_) (defScope s_Plain__init_) .none kV13 dc13 pm13 an13 cd13 ct13), sl13⟩)
    (c13 : PySem.W.codeIn K cd13 "Plain.__init__" = true)
    (k13 : PySem.W.keepIn K (.ref f13) = true)
    (a14 : PySem.W.findIn K (.ref A_Plain) "done" = some (some (.ref f14)))
    (i14 : PySem.W.isFn K (.ref f14) = true)
    (l14 : K.lookup f14 = some ⟨oc14, od14, .func (PySem.W.fnOf "done" "Plain.done" (defArgs s_Plain_done) (defBody s_Plain_done) (defScope s_Plain_done) .none kV14 dc14 pm14 an14 cd14 ct14), sl14⟩)
    (c14 : PySem.W.codeIn K cd14 "Plain.done" = true)
    (k14 : PySem.W.keepIn K (.ref f14) = true)
    (a15 : PySem.W.nsIn K mainGlobals "law" = some (some (.ref f15)))
    (l15 : K.lookup f15 = some ⟨oc15, od15, .func (PySem.W.fnOf "law" "law" (defArgs s_law) (defBody s_law) (defScope s_law) .none kV15 dc15 pm15 an15 cd15 ct15), sl15⟩)
    (c15 : PySem.W.codeIn K cd15 "law" = true)
    (k15 : PySem.W.keepIn K (.ref f15) = true)
    (pg_Plain : PySem.W.plainGet K A_Plain Str.empty = true)
    (hd_Plain : PySem.W.hasDictIn K A_Plain = true)
    (po_Plain : PySem.W.plainOver K A_Plain = true)
    (sa_Plain : PySem.W.findIn K (.ref A_Plain) "__setattr__" = some (some (.builtin "object.__setattr__")))
    (mk_Plain : PySem.W.makesIn K A_Plain = true)
    (kc_Plain : PySem.W.keepIn K (.ref A_Plain) = true)
    (n_Plain__state : PySem.W.findIn K (.ref A_Plain) "_state" = some none)
    (z_abs : PySem.W.nsIn K mainGlobals "abs" = some none)
    (z_len : PySem.W.nsIn K mainGlobals "len" = some none)
    (z_max : PySem.W.nsIn K mainGlobals "max" = some none)
    (z_int : PySem.W.nsIn K mainGlobals "int" = some none)
    (z_isinstance : PySem.W.nsIn K mainGlobals "isinstance" = some none)
    (z_bool : PySem.W.nsIn K mainGlobals "bool" = some none)
    (z_tuple : PySem.W.nsIn K mainGlobals "tuple" = some none)
    (z_str : PySem.W.nsIn K mainGlobals "str" = some none)
    (z_sum : PySem.W.nsIn K mainGlobals "sum" = some none)
    (z_range : PySem.W.nsIn K mainGlobals "range" = some none)
    (z_zip : PySem.W.nsIn K mainGlobals "zip" = some none)
    : ∃ fd : FuncData, (∀ (s : Shared) (v : Value), BindsTo s fd ⟨[v], []⟩ [("_law_script", v)]) ∧ ∀ base : Heap, K.In base → base.Ns mainGlobals mg → FnOk l.prog w K mg base CX0 5 fa fd ["_law_script"] (spLaw K) := by
  have e := hfa.symm.trans (PySem.W.mg_of X G a15)
  cases e
  have T : Txt K mg A_Plain :=
    { abs := PySem.W.mg_none_of X G z_abs,
      len := PySem.W.mg_none_of X G z_len,
      max := PySem.W.mg_none_of X G z_max,
      int := PySem.W.mg_none_of X G z_int,
      isinstance := PySem.W.mg_none_of X G z_isinstance,
      bool := PySem.W.mg_none_of X G z_bool,
      tuple := PySem.W.mg_none_of X G z_tuple,
      str := PySem.W.mg_none_of X G z_str,
      sum := PySem.W.mg_none_of X G z_sum,
      range := PySem.W.mg_none_of X G z_range,
      zip := PySem.W.mg_none_of X G z_zip,
      m_Plain := PySem.W.mg_of X G a_Plain,
      cl_Plain := ⟨pg_Plain, hd_Plain, po_Plain, sa_Plain⟩,
      n_Plain__state := n_Plain__state }
  have F1 := fun_mk (st := s_l_cell) l1 c1 k1
  have B1 := F1.binds (ps := ["_law_script", "_law_k"]) fun _ _ _ _ _ _ us hl => match us, hl with | [_, _], _ => rfl
  have F2 := fun_mk (st := s_l_dice) l2 c2 k2
  have B2 := F2.binds (ps := ["_law_script", "_law_k"]) fun _ _ _ _ _ _ us hl => match us, hl with | [_, _], _ => rfl
  have F3 := fun_mk (st := s_l_off) l3 c3 k3
  have B3 := F3.binds (ps := ["_law_d", "_law_most"]) fun _ _ _ _ _ _ us hl => match us, hl with | [_, _], _ => rfl
  have F4 := fun_mk (st := s_l_deed) l4 c4 k4
  have B4 := F4.binds (ps := ["_law_d", "_law_word"]) fun _ _ _ _ _ _ us hl => match us, hl with | [_, _], _ => rfl
  have F5 := fun_mk (st := s_l_plain) l5 c5 k5
  have B5 := F5.binds (ps := ["_law_many"]) fun _ _ _ _ _ _ us hl => match us, hl with | [_], _ => rfl
  have F6 := fun_mk (st := s_l_at_once) l6 c6 k6
  have B6 := F6.binds (ps := ["_law_plain_here", "_law_hand", "_law_deed_here"]) fun _ _ _ _ _ _ us hl => match us, hl with | [_, _, _], _ => rfl
  have F7 := fun_mk (st := s_l_same) l7 c7 k7
  have B7 := F7.binds (ps := ["_law_found", "_law_due"]) fun _ _ _ _ _ _ us hl => match us, hl with | [_, _], _ => rfl
  have F8 := fun_mk (st := s_l_same) l8 c8 k8
  have B8 := F8.binds (ps := ["_law_found", "_law_due"]) fun _ _ _ _ _ _ us hl => match us, hl with | [_, _], _ => rfl
  have F9 := fun_mk (st := s_l_words) l9 c9 k9
  have B9 := F9.binds (ps := []) fun _ _ _ _ _ _ us hl => match us, hl with | [], _ => rfl
  have F10 := fun_mk (st := s_first_state) l10 c10 k10
  have B10 := F10.binds (ps := ["many"]) fun _ _ _ _ _ _ us hl => match us, hl with | [_], _ => rfl
  have F11 := fun_mk (st := s_answer_in) l11 c11 k11
  have B11 := F11.binds (ps := ["state", "deed"]) fun _ _ _ _ _ _ us hl => match us, hl with | [_, _], _ => rfl
  have F12 := fun_mk (st := s_state_behind) l12 c12 k12
  have B12 := F12.binds (ps := ["state", "hand", "deed"]) fun _ _ _ _ _ _ us hl => match us, hl with | [_, _, _], _ => rfl
  have F13 := fun_mk (st := s_Plain__init_) l13 c13 k13
  have B13 := F13.binds (ps := ["self", "many"]) fun _ _ _ _ _ _ us hl => match us, hl with | [_, _], _ => rfl
  have F14 := fun_mk (st := s_Plain_done) l14 c14 k14
  have B14 := F14.binds (ps := ["self", "hand", "deed"]) fun _ _ _ _ _ _ us hl => match us, hl with | [_, _, _], _ => rfl
  have F15 := fun_mk (st := s_law) l15 c15 k15
  have B15 := F15.binds (ps := ["_law_script"]) fun _ _ _ _ _ _ us hl => match us, hl with | [_], _ => rfl
  refine ⟨PySem.W.fnOf "law" "law" (defArgs s_law) (defBody s_law) (defScope s_law) .none kV15 dc15 pm15 an15 cd15 ct15, fun s v => .of_eq rfl, fun base _ _ => ?_⟩
  have C_l_cell : Sd.Cal l.prog w K mg base CX0 1 "_law_cell" ["_law_script", "_law_k"] (Sd.spCell K) := Sd.Cal.mk' F1 (PySem.W.mg_of X G a1) B1 (ok_l_cell F1 T.toDr)
  have C_l_dice : Sd.Cal l.prog w K mg base CX0 2 "_law_dice" ["_law_script", "_law_k"] (Sd.spDice K) := Sd.Cal.mk' F2 (PySem.W.mg_of X G a2) B2 (ok_l_dice F2 T.toDr C_l_cell)
  have C_l_off : Sd.Cal l.prog w K mg base CX0 2 "_law_off" ["_law_d", "_law_most"] (Sd.spOff K) := Sd.Cal.mk' F3 (PySem.W.mg_of X G a3) B3 (ok_l_off F3 T.toDr C_l_cell)
  have C_l_deed : Sd.Cal l.prog w K mg base CX0 3 "_law_deed" ["_law_d", "_law_word"] (Sd.spLDeed K) := Sd.Cal.mk' F4 (PySem.W.mg_of X G a4) B4 (ok_l_deed F4 T.toDr C_l_off)
  have C_l_plain : Sd.Cal l.prog w K mg base CX0 1 "_law_plain" ["_law_many"] (Sd.spLPlain) := Sd.Cal.mk' F5 (PySem.W.mg_of X G a5) B5 (ok_l_plain F5 T.toDr)
  have C_l_at_once : Sd.Cal l.prog w K mg base CX0 1 "_law_at_once" ["_law_plain_here", "_law_hand", "_law_deed_here"] (Sd.spAtOnce) := Sd.Cal.mk' F6 (PySem.W.mg_of X G a6) B6 (ok_l_at_once F6 T)
  have C_l_same_flat : Sd.Cal l.prog w K mg base CX0 1 "_law_same" ["_law_found", "_law_due"] (Sd.spSameF) := Sd.Cal.mk' F7 (PySem.W.mg_of X G a7) B7 (ok_l_same_flat F7 T)
  have C_l_same : Sd.Cal l.prog w K mg base CX0 2 "_law_same" ["_law_found", "_law_due"] (Sd.spSame) := Sd.Cal.mk' F8 (PySem.W.mg_of X G a8) B8 (ok_l_same F8 T C_l_same_flat)
  have C_l_words : Sd.Cal l.prog w K mg base CX0 1 "_law_words" [] (Sd.spWords) := Sd.Cal.mk' F9 (PySem.W.mg_of X G a9) B9 (ok_l_words F9 T)
  have C_first_state : Sd.Cal l.prog w K mg base CX0 1 "first_state" ["many"] (Sd.spFirst) := Sd.Cal.mk' F10 (PySem.W.mg_of X G a10) B10 (ok_first_state F10 T.toDr)
  have C_answer_in : Sd.Cal l.prog w K mg base CX0 1 "answer_in" ["state", "deed"] (Sd.spAnsIn) := Sd.Cal.mk' F11 (PySem.W.mg_of X G a11) B11 (ok_answer_in F11 T.toDr)
  have C_state_behind : Sd.Cal l.prog w K mg base CX0 1 "state_behind" ["state", "hand", "deed"] (Sd.spBehind) := Sd.Cal.mk' F12 (PySem.W.mg_of X G a12) B12 (ok_state_behind F12 T.toDr)
  have C_Plain : Sd.CalI l.prog w K mg base CX0 2 "Plain" A_Plain ["self", "many"] (Sd.spPInit A_Plain) := Sd.CalI.mk' F13 (PySem.W.mg_of X G a_Plain) ⟨mk_Plain, a13, i13, kc_Plain⟩ B13 (ok_Plain__init_ F13 T C_first_state)
  have C_Plain_done : Sd.CalM l.prog w K mg base CX0 2 A_Plain "done" ["self", "hand", "deed"] (Sd.spDone A_Plain) := Sd.CalM.mk' F14 T.cl_Plain ⟨a14, i14, k14⟩ B14 (ok_Plain_done F14 T C_answer_in C_state_behind)
  exact ok_law F15 T C_l_cell C_l_dice C_l_off C_l_deed C_l_plain C_l_at_once C_l_same C_l_words C_Plain C_Plain_done
theorem walk {l : PySem.W.OpenLaw} {q : Program} {loose : List Str} {XP : (Str → Option Value) → Heap → Prop} {YP : World → Heap → Prop} {d : DefRec} {K : Params → PySem.W.Frag} (hn : l.most = some 63) (hdf : d.params.defaults = [])
    (hY : ∀ (w : World) (h : Heap), YP w h → (K w.params).In h)
    (F : ∀ (w : World) (mg : Str → Option Value) (fa : Addr) (h : Heap), (K w.params).In h → h.Ns mainGlobals mg → mg d.name = some (.ref fa) →
      ∃ fd : FuncData, (∀ (s : Shared) (u : Value), BindsTo s fd ⟨[u], []⟩ [("_law_script", u)]) ∧ ∀ base : Heap, (K w.params).In base → base.Ns mainGlobals mg → FnOk l.prog w (K w.params) mg base CX0 5 fa fd ["_law_script"] (spLaw (K w.params))) :
    PySem.W.WalkO q loose XP YP l.row.toRowW d [] (fun f vs => PySem.call f vs) :=
  L2.walk_of (n := 63) (k := 5) (x := "_law_script") (CX := fun _ => CX0) (sp := fun w => spLaw (K w.params)) hn (by decide) hdf ⟨rfl, by decide, by decide⟩ hY F (fun _ _ a ns hl _ hS => ⟨a, ns, rfl, hS, hl, fun _ => rfl⟩) fun _ _ _ _ _ z => z
end K04
open PySem PySem.W PyProof.Rows in
set_option maxRecDepth 100000 in
set_option maxHeartbeats 0 in
theorem PySem.Challenge.cw_stillhands_k04_at_once_holds : PySem.Challenge.rw_stillhands_k04_at_once.Holds := by
  w_on; o_law; k_head; (case hw => w_witness2)
  k_fill
  refine K04.walk (l := PySem.Challenge.rw_stillhands_k04_at_once) rfl rfl (fun w h Y => PySem.W.kIn_of Y) ?F
  case F =>
    intro w mg fa h KX G hmg
    refine' K04.all_mk KX G hmg ?a_Plain ?a1 ?l1 ?c1 ?k1 ?a2 ?l2 ?c2 ?k2 ?a3 ?l3 ?c3 ?k3 ?a4 ?l4 ?c4 ?k4 ?a5 ?l5 ?c5 ?k5 ?a6 ?l6 ?c6 ?k6 ?a7 ?l7 ?c7 ?k7 ?a8 ?l8 ?c8 ?k8 ?a9 ?l9 ?c9 ?k9 ?a10 ?l10 ?c10 ?k10 ?a11 ?l11 ?c11 ?k11 ?a12 ?l12 ?c12 ?k12 ?a13 ?i13 ?l13 ?c13 ?k13 ?a14 ?i14 ?l14 ?c14 ?k14 ?a15 ?l15 ?c15 ?k15 ?pg_Plain ?hd_Plain ?po_Plain ?sa_Plain ?mk_Plain ?kc_Plain ?n_Plain__state ?z_abs ?z_len ?z_max ?z_int ?z_isinstance ?z_bool ?z_tuple ?z_str ?z_sum ?z_range ?z_zip
    (case a_Plain => k_is)
    (case a1 => k_is)
    (case l1 => k_is)
    (case c1 => k_is)
    (case k1 => k_is)
    (case a2 => k_is)
    (case l2 => k_is)
    (case c2 => k_is)
    (case k2 => k_is)
    (case a3 => k_is)
    (case l3 => k_is)
    (case c3 => k_is)
    (case k3 => k_is)
    (case a4 => k_is)
    (case l4 => k_is)
    (case c4 => k_is)
    (case k4 => k_is)
    (case a5 => k_is)
    (case l5 => k_is)
    (case c5 => k_is)
    (case k5 => k_is)
    (case a6 => k_is)
    (case l6 => k_is)
    (case c6 => k_is)
    (case k6 => k_is)
    (case a7 => k_is)
    (case l7 => k_is)
    (case c7 => k_is)
    (case k7 => k_is)
    (case a8 => k_is)
    (case l8 => k_is)
    (case c8 => k_is)
    (case k8 => k_is)
    (case a9 => k_is)
    (case l9 => k_is)
    (case c9 => k_is)
    (case k9 => k_is)
    (case a10 => k_is)
    (case l10 => k_is)
    (case c10 => k_is)
    (case k10 => k_is)
    (case a11 => k_is)
    (case l11 => k_is)
    (case c11 => k_is)
    (case k11 => k_is)
    (case a12 => k_is)
    (case l12 => k_is)
    (case c12 => k_is)
    (case k12 => k_is)
    (case a13 => k_is)
    (case i13 => k_is)
    (case l13 => k_is)
    (case c13 => k_is)
    (case k13 => k_is)
    (case a14 => k_is)
    (case i14 => k_is)
    (case l14 => k_is)
    (case c14 => k_is)
    (case k14 => k_is)
    (case a15 => k_is)
    (case l15 => k_is)
    (case c15 => k_is)
    (case k15 => k_is)
    (case pg_Plain => k_is)
    (case hd_Plain => k_is)
    (case po_Plain => k_is)
    (case sa_Plain => k_is)
    (case mk_Plain => k_is)
    (case kc_Plain => k_is)
    (case n_Plain__state => k_is)
    (case z_abs => k_is)
    (case z_len => k_is)
    (case z_max => k_is)
    (case z_int => k_is)
    (case z_isinstance => k_is)
    (case z_bool => k_is)
    (case z_tuple => k_is)
    (case z_str => k_is)
    (case z_sum => k_is)
    (case z_range => k_is)
    (case z_zip => k_is)
