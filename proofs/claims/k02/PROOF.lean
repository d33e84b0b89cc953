import PyProof.Rows.All
import Wide.All
import OpenK.AllK
import Wide.FinOn
import HandS.ForMost
import HandS.ForExc
import HandS.Rev
import HandS.IsInst
import HandS.ExcIs
import KE.RegKIsAll
import HandS.Codes
import PySem.Challenge.RW_stillhands_k02_no_number
set_option Elab.async false
set_option linter.all false
set_option maxRecDepth 100000
set_option maxHeartbeats 4000000
/-! rows of numbers as one number -/
namespace Sd
def enc : List Int → Int
  | [] => 1
  | x :: xs => x + 1000000 * enc xs
def In6 (l : List Int) : Prop := ∀ x ∈ l, 0 ≤ x ∧ x < 1000000
theorem In6.nil : In6 [] := fun x h => by cases h
theorem In6.tail {x : Int} {l : List Int} (h : In6 (x :: l)) : In6 l := fun y hy => h y (List.mem_cons_of_mem _ hy)
theorem In6.drop {l : List Int} (h : In6 l) (k : Nat) : In6 (l.drop k) := fun y hy => h y (List.mem_of_mem_drop hy)
theorem In6.get {l : List Int} (h : In6 l) {k : Nat} {v : Int} (e : l[k]? = some v) : 0 ≤ v ∧ v < 1000000 := h v (List.mem_of_getElem? e)
theorem enc_pos : ∀ {l : List Int}, In6 l → 1 ≤ enc l
  | [], _ => by decide
  | x :: l, h => by
    have h1 := enc_pos h.tail
    have h2 := h x List.mem_cons_self
    show 1 ≤ x + 1000000 * enc l
    omega
theorem enc_cons (x : Int) (l : List Int) : enc (x :: l) = x + 1000000 * enc l := rfl
theorem enc_big {x : Int} {l : List Int} (h : In6 (x :: l)) : 1 < enc (x :: l) := by
  have h1 := enc_pos h.tail
  have h2 := h x List.mem_cons_self
  rw [enc_cons]
  omega
theorem enc_mod {x : Int} {l : List Int} (h : In6 (x :: l)) : enc (x :: l) % 1000000 = x := by
  have h2 := h x List.mem_cons_self
  rw [enc_cons]
  omega
theorem enc_div {x : Int} {l : List Int} (h : In6 (x :: l)) : enc (x :: l) / 1000000 = enc l := by
  have h2 := h x List.mem_cons_self
  rw [enc_cons]
  omega
theorem drop_at {l : List Int} {k : Nat} {v : Int} (e : l[k]? = some v) : l.drop k = v :: l.drop (k + 1) := by
  obtain ⟨h, q⟩ := List.getElem?_eq_some_iff.mp e
  rw [List.drop_eq_getElem_cons h, q]
theorem enc_drop {l : List Int} {k : Nat} {v : Int} (e : l[k]? = some v) : enc (l.drop k) = v + 1000000 * enc (l.drop (k + 1)) := by
  rw [drop_at e]
  rfl
theorem take_at {l : List Int} {k : Nat} {v : Int} (e : l[k]? = some v) : l.take (k + 1) = l.take k ++ [v] := by
  obtain ⟨h, q⟩ := List.getElem?_eq_some_iff.mp e
  rw [List.take_succ_eq_append_getElem h, q]
end Sd

/-! words of mine over the hand layer: a def that the module holds under a name (Cal), its call; lists; the draws of a script -/
namespace Sd
open PySem L2
/-- the module's name x holds a def that keeps sp -/
structure Cal (P : Program) (w : World) (K : PySem.W.Frag) (mg : Str → Option Value) (base : Heap) (CX : CXT) (k : Nat) (x : Str) (ps : List Str) (sp : Sp) : Prop where
  ex : ∃ f fd, mg x = some (.ref f) ∧ PySem.W.keepIn K (.ref f) = true ∧ Binds K fd ps [] ∧ FnOk P w K mg base CX k f fd ps sp
section
variable {X : Cx} {CX : CXT} {k : Nat} {ps : List Str} {sp : Sp} {E : XK} {x : Str} {p pos : Pos} {e : Expr} {es : List Expr} {t : TA}
theorem pe_fn (c : Cal X.prog X.w X.K X.mg X.base CX k x ps sp) (hr : Room k X.A) (hx : Passes CX X E) (ha : PA X (e :: es) t) (hg : Gl X x := by rfl)
    (hdb : (x == ("__debug__" : Str)) = false := by decide) (he : starEach (e :: es) X.env = (false, eval e X.env) :: starEach es X.env := by rfl) (hpl : (backTo pos (starEach es X.env)).any (·.1) = false := by rfl) :
    PE X (.Call (.Name x p) (e :: es) [] pos) (tCall sp [] E t) := by
  obtain ⟨f, fd, hm, hk, hb, F⟩ := c.ex
  exact pe_call F hr hg hm hk hb .nil hx ha hdb he hpl
theorem pe_fn0 (c : Cal X.prog X.w X.K X.mg X.base CX k x ps sp) (hr : Room k X.A) (hx : Passes CX X E) (hg : Gl X x := by rfl)
    (hdb : (x == ("__debug__" : Str)) = false := by decide) : PE X (.Call (.Name x p) [] [] pos) (tCall sp [] E tNil) := by
  obtain ⟨f, fd, hm, hk, hb, F⟩ := c.ex
  exact pe_call0 F hr hg hm hk hb .nil hx hdb
end
theorem Cal.mk' {P : Program} {w : World} {K : PySem.W.Frag} {mg : Str → Option Value} {base : Heap} {CX : CXT} {k : Nat} {x q : Str} {st : Stmt} {f : Addr} {fd : FuncData} {ps : List Str} {sp : Sp}
    (F : Fun K x q st f fd) (hm : mg x = some (.ref f)) (b : Binds K fd ps []) (G : FnOk P w K mg base CX k f fd ps sp) : Cal P w K mg base CX k x ps sp := ⟨f, fd, hm, F.kp, b, G⟩

/-! ### heaps -/
/-- what was tracked stands, but for the object at d -/
def But (d : Addr) (H H' : Hp) : Prop := ∀ b o, b ≠ d → H b = some o → H' b = some o
theorem But.refl (d : Addr) (H : Hp) : But d H H := fun _ _ _ h => h
theorem But.trans {d : Addr} {H H1 H2 : Hp} (a : But d H H1) (b : But d H1 H2) : But d H H2 := fun c o n h => b c o n (a c o n h)
theorem But.upd {d : Addr} {H : Hp} {o : HO} : But d H (upd H d o) := fun b u n h => by
  rw [upd_ne n]
  exact h
theorem Same.but {d : Addr} {H H' : Hp} (s : Same H H') : But d H H' := fun b o _ h => s b o h
theorem Same.new {H : Hp} {p : Addr} {o : HO} (h : H p = none) : Same H (upd H p o) := fun b u e => by
  rw [upd_ne (ne_of_none e h)]
  exact e
theorem Same.new2 {H : Hp} {p : Addr} {o o2 : HO} (h : H p = none) : Same H (upd (upd H p o) p o2) := fun b u e => by
  rw [upd_ne (ne_of_none e h), upd_ne (ne_of_none e h)]
  exact e
theorem But.same {d : Addr} {H H' : Hp} (s : But d H H') (h : H d = none) : Same H H' := fun b o e => s b o (ne_of_none e h) e
/-- the heap H' tracks what it did, and at d what it says -/
theorem But.free {d : Addr} {H H' : Hp} (s : But d H H') {u : HO} (hd : H' d = some u) {l : Addr} (h : H' l = none) : H l = none := by
  cases q : H l with
  | none => rfl
  | some o =>
    have n : l ≠ d := fun z => by
      rw [z, hd] at h
      cases h
    rw [s l o n q] at h
    cases h
theorem SqL.new {K : PySem.W.Frag} {H : Hp} {a p : Addr} {xs : List V} {o : HO} (h : SqL K H a xs) (n : H p = none) : SqL K (upd H p o) a xs := Same.seq (Same.new n) h
theorem SqL.but {K : PySem.W.Frag} {H H' : Hp} {a d : Addr} {xs : List V} (h : SqL K H a xs) (s : But d H H') (n : a ≠ d ∨ H d = none) : SqL K H' a xs := by
  rcases n with n | n
  · rcases h with (h | ⟨o, h⟩) | h
    · exact .inl (.inl (s _ _ n h))
    · exact .inl (.inr ⟨o, s _ _ n h⟩)
    · exact .inr h
  · exact Same.seq (s.same n) h
/-- a list that holds the object p is no list of ints -/
theorem SqL.keep {K : PySem.W.Frag} {H H' : Hp} {a d : Addr} {xs ys : List V} (h : SqL K H a xs) (s : But d H H') (hd : H d = some (.lst ys)) (n : ys ≠ xs) : SqL K H' a xs := by
  rcases h with (h | ⟨o, h⟩) | h
  · refine .inl (.inl (s _ _ (fun z => ?_) h))
    rw [z, hd] at h
    exact n (by cases h; rfl)
  · refine .inl (.inr ⟨o, s _ _ (fun z => ?_) h⟩)
    rw [z, hd] at h
    cases h
  · exact .inr h

/-! ### lists of ints -/
theorem ints_get {ns : List Int} {j : Nat} {v : Int} (h : ns[j]? = some v) : (ns.map V.int)[j]? = some (.int v) := by
  rw [List.getElem?_map, h]
  rfl
theorem ints_got {ns : List Int} {j : Nat} {y : V} (h : (ns.map V.int)[j]? = some y) : ∃ v, ns[j]? = some v ∧ y = .int v := by
  rw [List.getElem?_map] at h
  cases e : ns[j]? with
  | none =>
    rw [e] at h
    cases h
  | some v =>
    rw [e] at h
    exact ⟨v, rfl, (Option.some.inj h).symm⟩
theorem ixN_nat {n j : Nat} (hj : j < n) : ixN n ((j : Nat) : Int) = some j := by
  unfold ixN
  rw [if_pos (Int.natCast_nonneg j), if_pos (by omega), Int.toNat_natCast]
theorem size1 {n : Int} (h0 : 0 ≤ n) (h1 : n ≤ 100000) : 1 * n.toNat ≤ sizeLine := Nat.le_trans (by omega : 1 * n.toNat ≤ 100000) (by decide)
def dInts (ns : List Int) : PyData := .list (ns.map PyData.int)
theorem dInts_all {K : PySem.W.Frag} {H : Hp} : ∀ ns : List Int, DpAll K H (ns.map V.int) (ns.map PyData.int)
  | [] => .nil
  | n :: r => .cons (.int n) (dInts_all r)
theorem dInts_dp {K : PySem.W.Frag} {H : Hp} {a : Addr} {ns : List Int} (h : SqL K H a (ns.map V.int)) : Dp K H (.ref a) (dInts ns) := .lst h (dInts_all ns)
theorem lay_ints : ∀ ns : List Int, PyData.canLayAll0 (ns.map PyData.int) = true
  | [] => rfl
  | n :: r => by
    have h := lay_ints r
    show (PyData.canLay0 (.int n) && PyData.canLayAll0 (r.map PyData.int)) = true
    rw [h]
    rfl
theorem depth_ints : ∀ ns : List Int, PyData.depthAll (ns.map PyData.int) = 0
  | [] => rfl
  | n :: r => by
    have h := depth_ints r
    show max (PyData.depth (.int n)) (PyData.depthAll (r.map PyData.int)) = 0
    rw [h]
    rfl
theorem dInts_shaped (ns : List Int) : SeqAt.shaped (dInts ns) = true := by
  have h1 : PyData.canLay0 (dInts ns) = true := lay_ints ns
  have h2 : PyData.depth (dInts ns) = PyData.depthAll (ns.map PyData.int) + 1 := rfl
  rw [depth_ints] at h2
  unfold SeqAt.shaped
  rw [h1, h2]
  rfl
theorem eqv_all : ∀ ns : List Int, PyData.eqvAll (ns.map PyData.int) (ns.map PyData.int) = true
  | [] => rfl
  | n :: r => by
    have h := eqv_all r
    show (PyData.eqv (.int n) (.int n) && PyData.eqvAll (r.map PyData.int) (r.map PyData.int)) = true
    rw [h]
    show ((n == n) && true) = true
    rw [beq_self_eq_true]
    rfl
theorem eqv_ints (ns : List Int) : PyData.eqv (dInts ns) (dInts ns) = true := eqv_all ns
/-- an if whose test is known -/
theorem if_no {c : Bool} {A B : Prop} (h : c = true) (q : B) : if (!c) = true then A else B := by
  rw [h]
  exact q
theorem if_yes {c : Bool} {A B : Prop} (h : c = true) (q : A) : if c = true then A else B := by
  rw [h]
  exact q
theorem if_not {c : Bool} {A B : Prop} (h : c = false) (q : B) : if c = true then A else B := by
  rw [h]
  exact q
theorem ty_int {K : PySem.W.Frag} {H : Hp} {i : Int} : TyX K H (.int i) (.type "int") := .base (.int i)
theorem ty_lst {K : PySem.W.Frag} {H : Hp} {a : Addr} {xs : List V} (h : H a = some (.lst xs)) : TyX K H (.ref a) (.type "list") := .base (.lst h)
/-- a list that stood where p was free stands when p's object is laid or changed -/
theorem SqL.upd0 {K : PySem.W.Frag} {H0 H : Hp} {a p : Addr} {xs : List V} {o : HO} (h0 : SqL K H0 a xs) (hp : H0 p = none) (h : SqL K H a xs) : SqL K (upd H p o) a xs := by
  rcases h0 with h0 | h0
  · have n : a ≠ p := by
      rcases h0 with h0 | ⟨u, h0⟩
      · exact ne_of_none h0 hp
      · exact ne_of_none h0 hp
    exact SqL.but h (But.upd (d := p)) (.inl n)
  · exact .inr h0
theorem rep_flat (n : Nat) (i : Int) : (List.replicate n [V.int i]).flatten = (List.replicate n i).map V.int := by
  induction n with
  | zero => rfl
  | succ n ih =>
    rw [List.replicate_succ, List.replicate_succ, List.flatten_cons, ih]
    rfl
/-- an instance that is made: what stood, stands -/
theorem made_same {H H' : Hp} {x dx : Addr} {u v : HO} (h1 : H x = none) (h2 : H dx = none) (b : But x (upd (upd H dx u) x v) H') : Same H H' := fun c o e => by
  have n1 : c ≠ x := ne_of_none e h1
  have n2 : c ≠ dx := ne_of_none e h2
  refine b c o n1 ?_
  rw [upd_ne n1, upd_ne n2]
  exact e
theorem made_free {H : Hp} {x dx l : Addr} {u v : HO} (h1 : H x = none) (h2 : H dx = none) (h : upd (upd H dx u) x v l = none) : H l = none := by
  cases q : H l with
  | none => rfl
  | some o =>
    have n1 : l ≠ x := ne_of_none q h1
    have n2 : l ≠ dx := ne_of_none q h2
    rw [upd_ne n1, upd_ne n2, q] at h
    cases h
/-- a list that stood where p was free stands whatever p's object becomes -/
theorem SqL.other {K : PySem.W.Frag} {H0 H H' : Hp} {a p : Addr} {xs : List V} (h0 : SqL K H0 a xs) (hp : H0 p = none) (h : SqL K H a xs) (s : But p H H') : SqL K H' a xs := by
  rcases h0 with h0 | h0
  · have n : a ≠ p := by
      rcases h0 with h0 | ⟨u, h0⟩
      · exact ne_of_none h0 hp
      · exact ne_of_none h0 hp
    exact SqL.but h s (.inl n)
  · exact .inr h0
end Sd

/-! words of mine for refusals: what is raised, caught and looked at -/
namespace Sd
open PySem L2
section
variable {X : Cx} {CX : CXT} {k : Nat} {ps : List Str} {sp : Sp} {E : St → XK} {x : Str} {p pos : Pos} {e : Expr} {es : List Expr} {t : TA}
/-- a call in a try: what is raised is wished for at the slots -/
theorem pe_fnS (c : Cal X.prog X.w X.K X.mg X.base CX k x ps sp) (hr : Room k X.A) (hx : ∀ σ, PassesAt CX X σ (E σ)) (ha : PA X (e :: es) t) (hg : Gl X x := by rfl)
    (hdb : (x == ("__debug__" : Str)) = false := by decide) (he : starEach (e :: es) X.env = (false, eval e X.env) :: starEach es X.env := by rfl) (hpl : (backTo pos (starEach es X.env)).any (·.1) = false := by rfl) :
    PE X (.Call (.Name x p) (e :: es) [] pos) (tCallS sp E t) := by
  obtain ⟨f, fd, hm, hk, hb, F⟩ := c.ex
  exact pe_callS F hr hg hm hk hb hx ha hdb he hpl
end
/-- the error class at C, caught by the clause's class at S, and none of the classes at os -/
structure Ref (K : PySem.W.Frag) (C S : Addr) (os : List Addr) : Prop where
  ex : PySem.W.excIn K C [.type "ValueError", .type "Exception", .type "BaseException", .type "object"] "ValueError.__new__" = true
  kp : PySem.W.keepIn K (.ref C) = true
  b : PySem.W.subIn K (.ref C) (.type "BaseException") = some true
  t : PySem.W.typeIn K (.ref C) = some (.type "type")
  bS : PySem.W.subIn K (.ref S) (.type "BaseException") = some true
  hS : PySem.W.hasDictIn K S = true
  tS : PySem.W.typeIn K (.ref S) = some (.type "type")
  sub : PySem.W.subIn K (.ref C) (.ref S) = some true
  ec : ExcC K C
  me : PySem.W.kitOne K (.ref C) (.ref C) = some true
  ve : PySem.W.kitOne K (.ref C) (.type "ValueError") = some true
  no : ∀ o ∈ os, PySem.W.kitOne K (.ref C) (.ref o) = some false
theorem Ref.caught {K : PySem.W.Frag} {C S : Addr} {os : List Addr} (r : Ref K C S os) : PySem.W.exmOne K (.ref C) (.ref S) = some true := PySem.W.exm_ref r.bS r.hS r.tS r.sub
theorem Ref.none {K : PySem.W.Frag} {C S : Addr} : ∀ {os : List Addr}, (∀ o ∈ os, PySem.W.kitOne K (.ref C) (.ref o) = some false) → PySem.W.kitAny K (.ref C) (os.map Value.ref) = some false
  | [], _ => kitAny_nil
  | o :: os, h => kitAny_cons (h o List.mem_cons_self) (fun _ => Ref.none (S := S) fun x hx => h x (List.mem_cons_of_mem _ hx)) (fun z => by cases z)
theorem clsAll : ∀ os : List Addr, Paired ClsV (os.map V.ref) (os.map Value.ref)
  | [] => .nil
  | o :: os => .cons (.own o) (clsAll os)
/-- isinstance(e, c), e what the suite holds: one class, a tuple of classes -/
def rIsX (K : PySem.W.Frag) (a : Addr) (cls : Value) (d : Option Addr) : List V → Hp → VK → Prop := fun xs H Q => ∃ (D : Addr) (c : V) (cv : Value) (b : Bool),
  xs = [.ref a, c] ∧ cls = .ref D ∧ d = Option.none ∧ ExcC K D ∧ ClsV c cv ∧ PySem.W.kitOne K (.ref D) cv = some b ∧ Q (.bl b) H
def rIsXT (K : PySem.W.Frag) (a : Addr) (cls : Value) (d : Option Addr) : List V → Hp → VK → Prop := fun xs H Q => ∃ (D tp : Addr) (cs : List V) (us : List Value) (b : Bool),
  xs = [.ref a, .ref tp] ∧ cls = .ref D ∧ d = Option.none ∧ ExcC K D ∧ H tp = some (.tup cs) ∧ Paired ClsV cs us ∧ PySem.W.kitAny K (.ref D) us = some b ∧ Q (.bl b) H
theorem call_isX {X : Cx} {a : Addr} {cls : Value} {d : Option Addr} {oe : Obj} {pn : List (Addr × Obj)} (hz : Zc cls d oe) (hf : ∃ vs, oe.data = .fields vs) : CallR (X.suite a ((a, oe) :: pn)) (.builtin "isinstance") (rIsX X.K a cls d) := by
  intro pins s σ H xs us Q I r h
  obtain ⟨D, c, cv, b, rfl, rfl, rfl, C, k, e, q⟩ := h
  exact call_isE C hz hf pins s σ H [.ref a, c] us Q I r ⟨c, cv, b, rfl, fun u ru => k.eq ru, e, q⟩
theorem call_isXT {X : Cx} {a : Addr} {cls : Value} {d : Option Addr} {oe : Obj} {pn : List (Addr × Obj)} (hz : Zc cls d oe) (hf : ∃ vs, oe.data = .fields vs) : CallR (X.suite a ((a, oe) :: pn)) (.builtin "isinstance") (rIsXT X.K a cls d) := by
  intro pins s σ H xs us Q I r h
  obtain ⟨D, tp, cs, ws, b, rfl, rfl, rfl, C, hT, k, e, q⟩ := h
  obtain ⟨u1, u2, rfl, r1, r2⟩ := vals2 r
  cases (show u1 = Value.ref a from r1)
  cases (show u2 = Value.ref tp from r2)
  obtain ⟨hget, _⟩ := I.pin (a, oe) (List.mem_append.mpr (.inl List.mem_cons_self))
  obtain ⟨vs, hv⟩ := hf
  have J : PySem.W.InstAt s.heap a oe D none := by
    obtain ⟨oc, od, oda, osl⟩ := oe
    obtain ⟨h1, h2⟩ := hz
    dsimp only at h1 h2 hv
    subst h1 h2 hv
    exact ⟨hget, rfl, rfl, trivial⟩
  obtain ⟨_, its, rv, o, h1, h2, n, h3⟩ := (show ObjOk X.prog X.w H s.heap tp (.tup cs) from I.hok tp _ hT)
  have e3 := ClsV.all k rv
  subst e3
  obtain ⟨oc, od, dt, sl⟩ := o
  simp only at h2 h3
  subst h2 h3
  exact PySem.W.kia_tup (PySem.W.handS_kitx_exc C.hg C.hk C.hs C.hd C.ha C.hn C.ht C.hm) I.kIn J h1 e (fun z => nomatch z) fun tk => ⟨.bl b, H, I.kept (t' := tk) fun _ _ z => z, rfl, q⟩
end Sd

/-! the draws of a script: _law_cell, _law_dice, _law_off -/
namespace Sd
open PySem L2
theorem b01 (c : Bool) : -(2 ^ 64) < (if c = true then (1 : Int) else 0) ∧ (if c = true then (1 : Int) else 0) < 2 ^ 64 := by
  cases c with
  | true =>
    rw [if_pos rfl]
    decide
  | false =>
    rw [if_neg Bool.false_ne_true]
    decide
def spCell (K : PySem.W.Frag) : Sp := fun vs H Q _ => ∃ (a : Addr) (ns : List Int) (k : Int), vs = [.ref a, .int k] ∧ 0 ≤ k ∧ SqL K H a (ns.map V.int) ∧ ∀ v : Int, Q (.int v) H
/-- what the draws go on with stands at d: four things, the second one the script's list -/
def Dice (H : Hp) (d a : Addr) : Prop := ∃ n k g : Int, H d = some (.lst [.int n, .ref a, .int k, .int g])
theorem Dice.but {H H' : Hp} {d a e : Addr} (h : Dice H d a) (b : But e H H') (n : d ≠ e) : Dice H' d a := by
  obtain ⟨x, k, g, h⟩ := h
  exact ⟨x, k, g, b _ _ n h⟩
theorem Dice.same {H H' : Hp} {d a : Addr} (h : Dice H d a) (s : Same H H') : Dice H' d a := by
  obtain ⟨x, k, g, h⟩ := h
  exact ⟨x, k, g, s _ _ h⟩
theorem Dice.some {H : Hp} {d a : Addr} (h : Dice H d a) : ∃ u, H d = some u := by
  obtain ⟨x, k, g, h⟩ := h
  exact ⟨_, h⟩
theorem Dice.ne {H : Hp} {d a p : Addr} (h : Dice H d a) (n : H p = none) : d ≠ p := by
  obtain ⟨x, k, g, h⟩ := h
  exact ne_of_none h n
/-- the script stands, whatever the draws' list becomes -/
theorem Dice.seq {K : PySem.W.Frag} {H H' : Hp} {d a : Addr} {ns : List Int} (h : Dice H d a) (b : But d H H') (s : SqL K H a (ns.map V.int)) : SqL K H' a (ns.map V.int) := by
  obtain ⟨n, k, g, h⟩ := h
  refine Sd.SqL.keep s b h (fun e => ?_)
  cases ns with
  | nil => cases e
  | cons x r =>
    cases r with
    | nil => cases e
    | cons y r =>
      have e2 := (List.cons.inj (List.cons.inj e).2).1
      cases e2
theorem Dice.ne_ints {H : Hp} {d a l : Addr} {xs : List Int} (h : Dice H d a) (hl : H l = Option.some (.lst (xs.map V.int))) : l ≠ d := fun z => by
  obtain ⟨n, k, g, h⟩ := h
  rw [z, h] at hl
  have e := (HO.lst.inj (Option.some.inj hl))
  cases xs with
  | nil => cases e
  | cons x r =>
    cases r with
    | nil => cases e
    | cons y r => cases (List.cons.inj (List.cons.inj e).2).1
def spDice (K : PySem.W.Frag) : Sp := fun vs H Q _ => ∃ (a : Addr) (ns : List Int) (k : Int), vs = [.ref a, .int k] ∧ 0 ≤ k ∧ SqL K H a (ns.map V.int) ∧
  ∀ (p : Addr) (H' : Hp), H p = none → Same H H' → But p H H' → Dice H' p a → (∀ b, b ≠ p → H' b = H b) → Q (.ref p) H'
def spOff (K : PySem.W.Frag) : Sp := fun vs H Q _ => ∃ (d a : Addr) (ns : List Int) (m : Int), vs = [.ref d, .int m] ∧ Dice H d a ∧ SqL K H a (ns.map V.int) ∧ 0 < m ∧ m < 1073741824 ∧
  ∀ (r : Int) (H' : Hp), 0 ≤ r → r < m → Dice H' d a → (∀ b, b ≠ d → H' b = H b) → Q (.int r) H'
end Sd

namespace K02
open PySem L2
def top (i : Nat) : Stmt := PySem.Challenge.pw_stillhands_k02_no_number.main.body.getD i (.Pass ⟨0, 0, 0, 0⟩)
abbrev s_packed : Stmt := top 8
abbrev s_l_cell : Stmt := top 10
abbrev s_l_refused : Stmt := top 11
abbrev s_law : Stmt := top 12
structure Dr (K : PySem.W.Frag) (mg : Str → Option Value) : Prop where
  abs : mg "abs" = none
  len : mg "len" = none
structure Txt (K : PySem.W.Frag) (mg : Str → Option Value) (tL : Tok) (A_HandsError A_NoNumber A_NoBox A_NoHand A_NoDeed : Addr) : Prop extends Dr K mg where
  list : mg "list" = none
  range : mg "range" = none
  reversed : mg "reversed" = none
  isinstance : mg "isinstance" = none
  ValueError : mg "ValueError" = none
  m_LIMIT : mg "LIMIT" = some (.int 1000000 tL)
  m_HandsError : mg "HandsError" = some (.ref A_HandsError)
  m_NoNumber : mg "NoNumber" = some (.ref A_NoNumber)
  m_NoBox : mg "NoBox" = some (.ref A_NoBox)
  m_NoHand : mg "NoHand" = some (.ref A_NoHand)
  m_NoDeed : mg "NoDeed" = some (.ref A_NoDeed)
  r_NoNumber : Sd.Ref K A_NoNumber A_HandsError [A_NoBox, A_NoDeed, A_NoHand]
/-- a row is packed, or refused by an error of the class at C -/
def spPacked (K : PySem.W.Frag) (C : Addr) : Sp := fun vs H Q E => ∃ (a : Addr) (row : List Int), vs = [.ref a] ∧ SqL K H a (row.map V.int) ∧ (Sd.In6 row → Q (.int (Sd.enc row)) H) ∧ (¬ Sd.In6 row → E (.ref C) none H)
def spRefused (K : PySem.W.Frag) : Sp := fun vs H Q _ => ∃ (a : Addr) (row : List Int), vs = [.ref a] ∧ SqL K H a (row.map V.int) ∧ ¬ Sd.In6 row ∧ ∀ H', Q (.bl true) H'
def spLaw (K : PySem.W.Frag) : Sp := fun vs H Q _ => ∃ (a : Addr) (ns : List Int), vs = [.ref a] ∧ SqL K H a (ns.map V.int) ∧ ns.length ≤ 63 ∧ ∀ H', Q (.bl true) H'
/-! a cell of the script -/
section
variable {P : Program} {w : World} {K : PySem.W.Frag} {mg : Str → Option Value} {base : Heap}
abbrev N_l_cell : List Str := ["_law_script", "_law_k"]
theorem sc_l_cell : FnScope N_l_cell ["_law_script", "_law_k"] (defScope s_l_cell) := ⟨rfl, rfl, rfl, by decide +kernel, rfl, by decide +kernel, by decide +kernel⟩
theorem ok_l_cell {f : Addr} {fd : FuncData} (F : Fun K "_law_cell" "_law_cell" s_l_cell f fd) (T : Dr K mg) : FnOk P w K mg base CX0 1 f fd ["_law_script", "_law_k"] (Sd.spCell K) := by
  refine F.ok sc_l_cell (fun vs H Q E h => ?_) (fun cdv A outer s H vs Q E hr h => ?_)
  · obtain ⟨a, ns, k, rfl, _⟩ := h
    rfl
  · obtain ⟨a, ns, k, rfl, h0, hS, q⟩ := h
    refine ⟨_, (pss_cons (ps_if (pt_cmpR op_lt (pv 1) (pe_callB call_len_seq (by rfl) T.len (by decide +kernel) (pa_cons (pv 0) pa_nil)) (nomark _))
      (pss_one (ps_ret (pe_ix ix_list (pv 0) (pv 1) (fun _ _ => rfl))))
      pss_nil)
      (pss_one (ps_ret pe_int))), ?_⟩
    obtain ⟨m, rfl⟩ := Int.eq_ofNat_of_zero_le h0
    refine ⟨_, rfl, _, rfl, a, _, rfl, .inl hS, _, _, rfl, rfl, _, rfl, ?_⟩
    refine ite2 (fun c => ?_) (fun c => ?_)
    · have hm : m < ns.length := by
        have c' := of_decide_eq_true c
        rw [List.length_map] at c'
        omega
      exact ⟨_, rfl, _, rfl, a, _, _, _, rfl, rfl, hS, atI_nat (Sd.ints_get (List.getElem?_eq_getElem hm)), q _⟩
    · exact q 0
end

section
variable {P : Program} {w : World} {K : PySem.W.Frag} {mg : Str → Option Value} {base : Heap} {tL : Tok} {A_HandsError A_NoNumber A_NoBox A_NoHand A_NoDeed : Addr}
abbrev N_packed : List Str := ["row", "told", "number"]
theorem sc_packed : FnScope N_packed ["row"] (defScope s_packed) := ⟨rfl, rfl, rfl, by decide +kernel, rfl, by decide +kernel, by decide +kernel⟩
theorem ok_packed {f : Addr} {fd : FuncData} (F : Fun K "packed" "packed" s_packed f fd) (T : Txt K mg tL A_HandsError A_NoNumber A_NoBox A_NoHand A_NoDeed) : FnOk P w K mg base (L2.CX P w) 1 f fd ["row"] (spPacked K A_NoNumber) := by
  refine F.okX sc_packed (fun vs H Q E h => ?_) (fun cdv A outer s H vs Q E hr h => ?_)
  · obtain ⟨a, row, rfl, _⟩ := h
    rfl
  · obtain ⟨a, row, rfl, hS, q, qx⟩ := h
    refine ⟨_, (pss_cons (ps_set (i := 1) sc_packed.nd rfl (Or.inl rfl) pe_int)
      (pss_cons (ps_for (passes_of rfl) rfl (pi_reversed (by rfl) T.reversed (pa_cons (pv 0) pa_nil)) (pg_name (i := 2) sc_packed.nd rfl (Or.inl rfl))
      (pss_cons (ps_if (PW.pt (pw_or (pt_cmpR op_lt (pv 2) pe_int (nomark _)) (pw_or1 (pt_cmpR op_ge (pv 2) (pe_glob (v := .int 1000000) rfl T.m_LIMIT ⟨_, rfl⟩) (nomark _)))))
      (pss_one (ps_raise rfl (takes_of rfl rfl rfl rfl) (pmk_own PySem.F.excBase_ValueError T.r_NoNumber.ex T.m_NoNumber T.r_NoNumber.kp (raises_own T.r_NoNumber.b T.r_NoNumber.t) rfl)))
      pss_nil)
      (pss_one (ps_set (i := 1) sc_packed.nd rfl (Or.inl rfl) (pe_op op_add (pv 2) (pe_op op_mul (pe_glob (v := .int 1000000) rfl T.m_LIMIT ⟨_, rfl⟩) (pv 1)))))))
      (pss_one (ps_ret (pv 1))))), ?_⟩
    refine ⟨_, rfl, a, _, rfl, hS, ?_⟩
    refine RT.for_Itv (K := K) (a := a) (xs := row.map V.int) (fun i σ H' => H' = H ∧ Sd.In6 (row.drop (row.length - i)) ∧ ∃ v, σ = [some (.ref a), some (.int (Sd.enc (row.drop (row.length - i)))), v]) ?_ ?_ ?_ ?_
    · rw [Nat.sub_zero, List.drop_length]
      exact ⟨rfl, Sd.In6.nil, none, rfl⟩
    · rintro i σ H' ⟨rfl, _⟩
      exact hS
    · rintro i x σ H' hi hx ⟨rfl, h6, v, rfl⟩
      rw [List.length_map] at hi hx
      obtain ⟨y, hy, rfl⟩ := Sd.ints_got hx
      refine ⟨_, rfl, _, _, rfl, rfl, _, rfl, ?_⟩
      refine ite2 (fun c => ?_) (fun c1 => ?_)
      · refine qx fun h => ?_
        have hb := h.get hy
        have c' := of_decide_eq_true c
        omega
      refine ⟨_, rfl, _, _, rfl, rfl, _, rfl, ?_⟩
      refine ite2 (fun c => ?_) (fun c2 => ?_)
      · refine qx fun h => ?_
        have hb := h.get hy
        have c' := of_decide_eq_true c
        omega
      have d1 : ¬ (y < 0) := fun z => c1 (decide_eq_true z)
      have d2 : ¬ (1000000 ≤ y) := fun z => c2 (decide_eq_true z)
      refine ⟨_, rfl, _, rfl, _, _, rfl, rfl, .inl ⟨by decide, by decide⟩, _, _, rfl, rfl, ?_⟩
      have e1 : row.length - (i + 1) = row.length - 1 - i := by omega
      have e2 : row.length - 1 - i + 1 = row.length - i := by omega
      have e3 := Sd.drop_at hy
      have e := Sd.enc_drop hy
      rw [e2] at e e3
      refine ⟨rfl, ?_, some (.int y), ?_⟩
      · rw [e1, e3]
        intro x hx
        rcases List.mem_cons.mp hx with z | z
        · rw [z]
          omega
        · exact h6 x z
      · rw [e1, e]
        rfl
    · rintro σ H' ⟨rfl, h6, v, rfl⟩
      rw [List.length_map, Nat.sub_self] at *
      exact ⟨_, rfl, q h6⟩
abbrev N_l_refused : List Str := ["_law_row", "e"]
theorem sc_l_refused : FnScope N_l_refused ["_law_row"] (defScope s_l_refused) := ⟨rfl, rfl, rfl, by decide +kernel, rfl, by decide +kernel, by decide +kernel⟩
theorem ok_l_refused {f : Addr} {fd : FuncData} (F : Fun K "_law_refused" "_law_refused" s_l_refused f fd) (T : Txt K mg tL A_HandsError A_NoNumber A_NoBox A_NoHand A_NoDeed)
    (C_packed : Sd.Cal P w K mg base (L2.CX P w) 1 "packed" ["row"] (spPacked K A_NoNumber)) : FnOk P w K mg base CX0 2 f fd ["_law_row"] (spRefused K) := by
  refine F.ok sc_l_refused (fun vs H Q E h => ?_) (fun cdv A outer s H vs Q E hr h => ?_)
  · obtain ⟨a, row, rfl, _⟩ := h
    rfl
  · obtain ⟨a, row, rfl, hS, hbad, q⟩ := h
    refine ⟨_, (pss_cons (ps_try_as (i := 1) (Wout := fun _ _ _ _ => False) rfl rfl sc_l_refused.nd rfl rfl ⟨rfl, by decide, .inl T.m_HandsError⟩ takes0 (fun W pn xe tk _ => (pss_one (ps_expr (Sd.pe_fnS C_packed (hr.mono (by decide)) (fun σ => passAt tk σ) (pa_cons (pv 0) pa_nil)))))
      (fun a oe cls d pn hz hf => (pss_one (ps_ret (pe_and (pe_callB (Sd.call_isX hz hf) (by rfl) T.isinstance (by decide +kernel) (pa_cons (pv 1) (pa_cons (pe_glob (v := .ref A_NoNumber) rfl T.m_NoNumber rfl) pa_nil))) (pe_and (pe_callB (Sd.call_isX hz hf) (by rfl) T.isinstance (by decide +kernel) (pa_cons (pv 1) (pa_cons (pe_bltn (v := .ty "ValueError") (u := .type "ValueError") (by rfl) T.ValueError (by decide +kernel) rfl) pa_nil))) (pe_one (pe_not (pe_callB (Sd.call_isXT hz hf) (by rfl) T.isinstance (by decide +kernel) (pa_cons (pv 1) (pa_cons (pe_tup (pa_cons (pe_glob (v := .ref A_NoBox) rfl T.m_NoBox rfl) (pa_cons (pe_glob (v := .ref A_NoDeed) rfl T.m_NoDeed rfl) (pa_cons (pe_glob (v := .ref A_NoHand) rfl T.m_NoHand rfl) pa_nil)))) pa_nil)))))))))))
      (pss_one (ps_ret pe_bl))), ?_⟩
    refine ⟨_, rfl, a, row, rfl, hS, fun h => absurd h hbad, fun _ => ?_⟩
    refine ⟨true, T.r_NoNumber.caught, fun _ e he => ?_, fun z => nomatch z⟩
    refine ⟨_, rfl, _, _, _, true, rfl, rfl, rfl, T.r_NoNumber.ec, .own _, T.r_NoNumber.me, true, rfl, ?_⟩
    refine ⟨_, rfl, _, _, _, true, rfl, rfl, rfl, T.r_NoNumber.ec, .ty _, T.r_NoNumber.ve, true, rfl, ?_⟩
    refine ⟨_, rfl, (by show 3 ≤ sizeLine; decide), fun tp htp => ?_⟩
    exact ⟨_, tp, _, _, false, rfl, rfl, rfl, T.r_NoNumber.ec, upd_same, Sd.clsAll [A_NoBox, A_NoDeed, A_NoHand], Sd.Ref.none (S := A_HandsError) T.r_NoNumber.no, false, rfl, q _⟩
abbrev N_law : List Str := ["_law_script", "_law_many", "_law_row", "_law_far", "_law_odd", "_law_k"]
theorem sc_law : FnScope N_law ["_law_script"] (defScope s_law) := ⟨rfl, rfl, rfl, by decide +kernel, rfl, by decide +kernel, by decide +kernel⟩
theorem not_in6 {l : List Int} {j : Nat} {x : Int} (hj : j < l.length) (hx : x < 0 ∨ 1000000 ≤ x) : ¬ Sd.In6 (l.set j x) := fun h => by
  have e : (l.set j x)[j]? = some x := by rw [List.getElem?_set_self hj]
  have := h.get e
  omega
theorem ok_law {f : Addr} {fd : FuncData} (F : Fun K "law" "law" s_law f fd) (T : Txt K mg tL A_HandsError A_NoNumber A_NoBox A_NoHand A_NoDeed)
    (C_l_cell : Sd.Cal P w K mg base CX0 1 "_law_cell" ["_law_script", "_law_k"] (Sd.spCell K)) (C_packed : Sd.Cal P w K mg base (L2.CX P w) 1 "packed" ["row"] (spPacked K A_NoNumber))
    (C_l_refused : Sd.Cal P w K mg base CX0 2 "_law_refused" ["_law_row"] (spRefused K)) : FnOk P w K mg base CX0 4 f fd ["_law_script"] (spLaw K) := by
  refine F.ok sc_law (fun vs H Q E h => ?_) (fun cdv A outer s H vs Q E hr h => ?_)
  · obtain ⟨a, ns, rfl, _⟩ := h
    rfl
  · obtain ⟨a, ns, rfl, hS, hlen, q⟩ := h
    refine ⟨_, (pss_cons (ps_set (i := 1) sc_law.nd rfl (Or.inl rfl) (pe_op op_add pe_int (pe_op op_mod (pe_callB call_abs (by rfl) T.abs (by decide +kernel) (pa_cons (Sd.pe_fn C_l_cell (hr.mono (by decide)) pass0 (pa_cons (pv 0) (pa_cons pe_int pa_nil))) pa_nil)) pe_int)))
      (pss_cons (ps_setLc (i := 2) (own := [("_law_k", 5)]) (g := gName 5) (by rfl) sc_law.nd rfl rfl (sw_true rfl rfl rfl (by decide +kernel)) (pi_range1 rfl T.range (pa_cons (pv 1) pa_nil)) (blkOk_by (own := [("_law_k", 5)]) (N := N_law) (sc := defScope s_law) (by decide +kernel)) (fun _ _ _ _ _ => pg_name (i := 5) sc_law.nd rfl (Or.inl rfl)) (fun _ _ _ _ _ => pts_nil) (fun _ _ _ _ _ => (pe_op op_mod (pe_callB call_abs (by rfl) T.abs (by decide +kernel) (pa_cons (Sd.pe_fn C_l_cell (hr.mono (by decide)) pass0 (pa_cons (pv 0) (pa_cons (pe_op op_add pe_int (pv 5)) pa_nil))) pa_nil)) pe_int)))
      (pss_cons (ps_if (pt_cmpR op_lt (Sd.pe_fn C_packed (hr.mono (by decide)) passL (pa_cons (pe_callTy call_list_of (by rfl) T.list (by decide +kernel) (pa_cons (pv 2) pa_nil)) pa_nil)) pe_int (nomark _))
      (pss_one (ps_ret pe_bl))
      pss_nil)
      (pss_cons (ps_set (i := 3) sc_law.nd rfl (Or.inl rfl) (pe_callB call_abs (by rfl) T.abs (by decide +kernel) (pa_cons (Sd.pe_fn C_l_cell (hr.mono (by decide)) pass0 (pa_cons (pv 0) (pa_cons pe_int pa_nil))) pa_nil)))
      (pss_cons (ps_set (i := 4) sc_law.nd rfl (Or.inl rfl) (pe_lst (pa_cons (pe_un un_neg pe_int) (pa_cons pe_int (pa_cons (pe_op op_sub (pe_op op_sub pe_int pe_int) (pv 3)) (pa_cons (pe_op op_add pe_int (pv 3)) pa_nil))))))
      (pss_cons (ps_asg (pe_ix ix_list (pv 4) (pe_op op_mod (pe_op op_fdiv (pe_callB call_abs (by rfl) T.abs (by decide +kernel) (pa_cons (Sd.pe_fn C_l_cell (hr.mono (by decide)) pass0 (pa_cons (pv 0) (pa_cons pe_int pa_nil))) pa_nil)) pe_int) pe_int) (fun _ _ => rfl)) (pg_sub (pv 2) (pe_op op_mod (pe_callB call_abs (by rfl) T.abs (by decide +kernel) (pa_cons (Sd.pe_fn C_l_cell (hr.mono (by decide)) pass0 (pa_cons (pv 0) (pa_cons pe_int pa_nil))) pa_nil)) (pv 1)) set_list))
      (pss_one (ps_ret (Sd.pe_fn C_l_refused (hr.mono (by decide)) pass0 (pa_cons (pv 2) pa_nil)))))))))), ?_⟩
    refine ⟨_, rfl, a, ns, 0, rfl, by decide, hS, fun v0 => ⟨v0, rfl, _, _, rfl, rfl, (by show (0 : Int) < 9; decide), _, _, rfl, rfl, ?_⟩⟩
    dsimp only
    generalize hN : 1 + (if v0 < 0 then -v0 else v0) % 9 = many
    have hN0 : 0 < many := by have := Int.emod_nonneg (if v0 < 0 then -v0 else v0) (b := 9) (by decide); omega
    have hN1 : many < 10 := by have := Int.emod_lt_of_pos (if v0 < 0 then -v0 else v0) (b := 9) (by decide); omega
    refine ⟨_, rfl, many, rfl, by omega, by omega, fun D hD => ?_⟩
    refine lc_range (lo := 0) (n := many.toNat) (fun i H' => Same H H' ∧ ∃ l : List Int, H' D = some (.lst (l.map V.int)) ∧ l.length = i ∧ Sd.In6 l) ⟨Sd.Same.new hD, [], upd_same, rfl, Sd.In6.nil⟩ ?_ ?_
    · rintro i H' hi ⟨hs, l, hL, hl, h6⟩
      refine ⟨rfl, _, rfl, _, rfl, _, _, rfl, rfl, a, ns, _, rfl, by omega, hs.seq hS, fun v => ⟨v, rfl, _, _, rfl, rfl, (by show (0 : Int) < 1000000; decide), ?_⟩⟩
      refine ⟨_, hL, by rw [List.length_map, hl]; exact small1000 (by omega), fun b o e => ?_, l ++ [(if v < 0 then -v else v) % 1000000], ?_, ?_, ?_⟩
      · rw [upd_ne (ne_of_none e hD)]
        exact hs b o e
      · rw [upd_same, List.map_append]
        rfl
      · rw [List.length_append, hl]
        rfl
      · intro x hx
        rcases List.mem_append.mp hx with z | z
        · exact h6 x z
        · rw [List.mem_singleton] at z
          rw [z]
          exact ⟨Int.emod_nonneg _ (by decide), Int.emod_lt_of_pos _ (by decide)⟩
    rintro H1 ⟨s1, l, hL, hl, h6⟩
    -- without that number it is not refused
    refine ⟨_, rfl, D, _, rfl, .inl (SqL.of hL), fun g hg => ?_⟩
    refine ⟨g, l, rfl, SqL.of upd_same, fun _ => ?_, fun z => absurd h6 z⟩
    refine ⟨_, _, rfl, rfl, _, rfl, Sd.if_not (decide_eq_false ?_) ?_⟩
    · have := Sd.enc_pos h6
      omega
    have s2 : Same H (upd H1 g (.lst (l.map V.int))) := s1.trans (Sd.Same.new hg)
    have hL2 : upd H1 g (.lst (l.map V.int)) D = some (.lst (l.map V.int)) := Sd.Same.new hg _ _ hL
    generalize upd H1 g (.lst (l.map V.int)) = H2 at s2 hL2
    -- far, odd
    refine ⟨_, rfl, a, ns, 1, rfl, by decide, s2.seq hS, fun v1 => ⟨v1, rfl, ?_⟩⟩
    dsimp only
    generalize hF : (if v1 < 0 then -v1 else v1) = far
    have hF0 : 0 ≤ far := by rw [← hF]; split <;> omega
    refine ⟨_, rfl, _, _, rfl, rfl, _, rfl, _, _, rfl, rfl, _, rfl, _, _, rfl, rfl, (by show 4 ≤ sizeLine; decide), fun o ho => ?_⟩
    have hoD : D ≠ o := ne_of_none hL2 ho
    have s3 : Same H (upd H2 o (.lst [.int (-1), .int 1000000, .int (0 - 1 - far), .int (1000000 + far)])) := s2.trans (Sd.Same.new ho)
    -- the place, the number
    refine ⟨_, rfl, _, rfl, a, ns, 2, rfl, by decide, s3.seq hS, fun v2 => ⟨v2, rfl, _, _, rfl, rfl, ⟨by decide, by decide⟩, _, _, rfl, rfl, (by show (0 : Int) < 4; decide), ?_⟩⟩
    dsimp only
    generalize hA : (if v2 < 0 then -v2 else v2) / 9 % 4 = w2
    have hA0 : 0 ≤ w2 := by rw [← hA]; exact Int.emod_nonneg _ (by decide)
    have hA1 : w2 < 4 := by rw [← hA]; exact Int.emod_lt_of_pos _ (by decide)
    have hodd : ∃ x : Int, atI [V.int (-1), V.int 1000000, V.int (0 - 1 - far), V.int (1000000 + far)] w2 = some (.int x) ∧ (x < 0 ∨ 1000000 ≤ x) := by
      have h : w2 = 0 ∨ w2 = 1 ∨ w2 = 2 ∨ w2 = 3 := by omega
      rcases h with rfl | rfl | rfl | rfl
      · exact ⟨-1, atI_nat (j := 0) rfl, .inl (by decide)⟩
      · exact ⟨1000000, atI_nat (j := 1) rfl, .inr (by decide)⟩
      · exact ⟨0 - 1 - far, atI_nat (j := 2) rfl, .inl (by omega)⟩
      · exact ⟨1000000 + far, atI_nat (j := 3) rfl, .inr (by omega)⟩
    obtain ⟨x, hx, hbad⟩ := hodd
    refine ⟨o, _, _, _, rfl, rfl, SqL.of upd_same, hx, ?_⟩
    refine ⟨_, rfl, _, rfl, a, ns, 2, rfl, by decide, s3.seq hS, fun v3 => ⟨v3, rfl, _, rfl, _, _, rfl, rfl, hN0, ?_⟩⟩
    have hj0 := Int.emod_nonneg (if v3 < 0 then -v3 else v3) (b := many) (by omega)
    have hj1 := Int.emod_lt_of_pos (if v3 < 0 then -v3 else v3) hN0
    obtain ⟨j, hj⟩ := Int.eq_ofNat_of_zero_le hj0
    have hjl : j < l.length := by omega
    have hD3 : upd H2 o (.lst [.int (-1), .int 1000000, .int (0 - 1 - far), .int (1000000 + far)]) D = some (.lst (l.map V.int)) := Sd.Same.new ho _ _ hL2
    refine ⟨D, _, _, j, rfl, rfl, hD3, ?_, ?_⟩
    · show ixN _ ((if v3 < 0 then -v3 else v3) % many) = some j
      rw [hj, List.length_map]
      exact Sd.ixN_nat hjl
    refine ⟨_, rfl, D, l.set j x, rfl, SqL.of ?_, not_in6 hjl hbad, fun H' => q H'⟩
    rw [upd_same, List.map_set]
end
theorem all_mk {l : PySem.W.OpenLaw} {w : World} {K : PySem.W.Frag} {h : Heap} {mg : Str → Option Value} {fa f1 f2 f3 f4  A_HandsError A_NoNumber A_NoBox A_NoHand A_NoDeed : Addr} {tL : Tok} (X : K.In h) (G : h.Ns mainGlobals mg) (hfa : mg "law" = some (.ref fa))
    {od1 an1 od2 an2 od3 an3 od4 an4 : Option Addr} {sl1 sl2 sl3 sl4 : Array (Option Value)} {oc1 kV1 dc1 pm1 cd1 ct1 oc2 kV2 dc2 pm2 cd2 ct2 oc3 kV3 dc3 pm3 cd3 ct3 oc4 kV4 dc4 pm4 cd4 ct4 : Value}
    (a_HandsError : PySem.W.nsIn K mainGlobals "HandsError" = some (some (.ref A_HandsError)))
    (a_NoNumber : PySem.W.nsIn K mainGlobals "NoNumber" = some (some (.ref A_NoNumber)))
    (a_NoBox : PySem.W.nsIn K mainGlobals "NoBox" = some (some (.ref A_NoBox)))
    (a_NoHand : PySem.W.nsIn K mainGlobals "NoHand" = some (some (.ref A_NoHand)))
    (a_NoDeed : PySem.W.nsIn K mainGlobals "NoDeed" = some (some (.ref A_NoDeed)))
    (x_NoNumber : PySem.W.excIn K A_NoNumber [.type "ValueError", .type "Exception", .type "BaseException", .type "object"] "ValueError.__new__" = true)
    (k_NoNumber : PySem.W.keepIn K (.ref A_NoNumber) = true)
    (b_NoNumber : PySem.W.subIn K (.ref A_NoNumber) (.type "BaseException") = some true)
    (t_NoNumber : PySem.W.typeIn K (.ref A_NoNumber) = some (.type "type"))
    (bS_NoNumber : PySem.W.subIn K (.ref A_HandsError) (.type "BaseException") = some true)
    (hS_NoNumber : PySem.W.hasDictIn K A_HandsError = true)
    (tS_NoNumber : PySem.W.typeIn K (.ref A_HandsError) = some (.type "type"))
    (u_NoNumber : PySem.W.subIn K (.ref A_NoNumber) (.ref A_HandsError) = some true)
    (e1_NoNumber : PySem.W.findIn K (.ref A_NoNumber) "__getattribute__" = some (some (.builtin "BaseException.__getattribute__")))
    (e2_NoNumber : PySem.W.findIn K (.ref A_NoNumber) "__getattr__" = some none)
    (e3_NoNumber : PySem.W.hasDictIn K A_NoNumber = true)
    (e4_NoNumber : PySem.W.findIn K (.ref A_NoNumber) "__class__" = some (some (.builtin "object.__class__")))
    (e5_NoNumber : PySem.W.specialIn K (.builtin "object.__class__") "__get__" = some (some (.builtin "getset_descriptor.__get__")))
    (e6_NoNumber : PySem.W.takesIn K (.builtin "object.__class__") = some true)
    (e7_NoNumber : PySem.W.mroIn K A_NoNumber (.type "object") = some true)
    (me_NoNumber : PySem.W.kitOne K (.ref A_NoNumber) (.ref A_NoNumber) = some true)
    (ve_NoNumber : PySem.W.kitOne K (.ref A_NoNumber) (.type "ValueError") = some true)
    (no_NoNumber_NoBox : PySem.W.kitOne K (.ref A_NoNumber) (.ref A_NoBox) = some false)
    (no_NoNumber_NoDeed : PySem.W.kitOne K (.ref A_NoNumber) (.ref A_NoDeed) = some false)
    (no_NoNumber_NoHand : PySem.W.kitOne K (.ref A_NoNumber) (.ref A_NoHand) = some false)
    (a1 : PySem.W.nsIn K mainGlobals "_law_cell" = some (some (.ref f1)))
    (l1 : K.lookup f1 = some ⟨oc1, od1, .func (PySem.W.fnOf "_law_cell" "_law_cell" (defArgs s_l_cell) (defBody s_l_cell) (defScope s_l_cell) .none kV1 dc1 pm1 an1 cd1 ct1), sl1⟩)
    (c1 : PySem.W.codeIn K cd1 "_law_cell" = true)
    (k1 : PySem.W.keepIn K (.ref f1) = true)
    (a2 : PySem.W.nsIn K mainGlobals "packed" = some (some (.ref f2)))
    (l2 : K.lookup f2 = some ⟨oc2, od2, .func (PySem.W.fnOf "packed" "packed" (defArgs s_packed) (defBody s_packed) (defScope s_packed) .none kV2 dc2 pm2 an2 cd2 ct2), sl2⟩)
    (c2 : PySem.W.codeIn K cd2 "packed" = true)
    (k2 : PySem.W.keepIn K (.ref f2) = true)
    (a3 : PySem.W.nsIn K mainGlobals "_law_refused" = some (some (.ref f3)))
    (l3 : K.lookup f3 = some ⟨oc3, od3, .func (PySem.W.fnOf "_law_refused" "_law_refused" (defArgs s_l_refused) (defBody s_l_refused) (defScope s_l_refused) .none kV3 dc3 pm3 an3 cd3 ct3), sl3⟩)
    (c3 : PySem.W.codeIn K cd3 "_law_refused" = true)
    (k3 : PySem.W.keepIn K (.ref f3) = true)
    (a4 : PySem.W.nsIn K mainGlobals "law" = some (some (.ref f4)))
    (l4 : K.lookup f4 = some ⟨oc4, od4, .func (PySem.W.fnOf "law" "law" (defArgs s_law) (defBody s_law) (defScope s_law) .none kV4 dc4 pm4 an4 cd4 ct4), sl4⟩)
    (c4 : PySem.W.codeIn K cd4 "law" = true)
    (k4 : PySem.W.keepIn K (.ref f4) = true)
    (z_abs : PySem.W.nsIn K mainGlobals "abs" = some none)
    (z_len : PySem.W.nsIn K mainGlobals "len" = some none)
    (z_list : PySem.W.nsIn K mainGlobals "list" = some none)
    (z_range : PySem.W.nsIn K mainGlobals "range" = some none)
    (z_reversed : PySem.W.nsIn K mainGlobals "reversed" = some none)
    (z_isinstance : PySem.W.nsIn K mainGlobals "isinstance" = some none)
    (z_ValueError : PySem.W.nsIn K mainGlobals "ValueError" = some none)
    (g_LIMIT : PySem.W.nsIn K mainGlobals "LIMIT" = some (some (.int 1000000 tL)))
    : ∃ fd : FuncData, (∀ (s : Shared) (v : Value), BindsTo s fd ⟨[v], []⟩ [("_law_script", v)]) ∧ ∀ base : Heap, K.In base → base.Ns mainGlobals mg → FnOk l.prog w K mg base CX0 4 fa fd ["_law_script"] (spLaw K) := by
  have e := hfa.symm.trans (PySem.W.mg_of X G a4)
  cases e
  have T : Txt K mg tL A_HandsError A_NoNumber A_NoBox A_NoHand A_NoDeed :=
    { m_HandsError := PySem.W.mg_of X G a_HandsError,
      m_NoNumber := PySem.W.mg_of X G a_NoNumber,
      m_NoBox := PySem.W.mg_of X G a_NoBox,
      m_NoHand := PySem.W.mg_of X G a_NoHand,
      m_NoDeed := PySem.W.mg_of X G a_NoDeed,
      r_NoNumber := ⟨x_NoNumber, k_NoNumber, b_NoNumber, t_NoNumber, bS_NoNumber, hS_NoNumber, tS_NoNumber, u_NoNumber, ⟨e1_NoNumber, e2_NoNumber, b_NoNumber, e3_NoNumber, e4_NoNumber, e5_NoNumber, e6_NoNumber, e7_NoNumber⟩, me_NoNumber, ve_NoNumber, fun o ho => by
        simp only [List.mem_cons, List.not_mem_nil, or_false] at ho
        rcases ho with rfl | rfl | rfl
        all_goals assumption⟩,
      abs := PySem.W.mg_none_of X G z_abs,
      len := PySem.W.mg_none_of X G z_len,
      list := PySem.W.mg_none_of X G z_list,
      range := PySem.W.mg_none_of X G z_range,
      reversed := PySem.W.mg_none_of X G z_reversed,
      isinstance := PySem.W.mg_none_of X G z_isinstance,
      ValueError := PySem.W.mg_none_of X G z_ValueError,
      m_LIMIT := PySem.W.mg_of X G g_LIMIT }
  have F1 := fun_mk (st := s_l_cell) l1 c1 k1
  have B1 := F1.binds (ps := ["_law_script", "_law_k"]) fun _ _ _ _ _ _ us hl => match us, hl with | [_, _], _ => rfl
  have F2 := fun_mk (st := s_packed) l2 c2 k2
  have B2 := F2.binds (ps := ["row"]) fun _ _ _ _ _ _ us hl => match us, hl with | [_], _ => rfl
  have F3 := fun_mk (st := s_l_refused) l3 c3 k3
  have B3 := F3.binds (ps := ["_law_row"]) fun _ _ _ _ _ _ us hl => match us, hl with | [_], _ => rfl
  have F4 := fun_mk (st := s_law) l4 c4 k4
  have B4 := F4.binds (ps := ["_law_script"]) fun _ _ _ _ _ _ us hl => match us, hl with | [_], _ => rfl
  refine ⟨PySem.W.fnOf "law" "law" (defArgs s_law) (defBody s_law) (defScope s_law) .none kV4 dc4 pm4 an4 cd4 ct4, fun s v => .of_eq rfl, fun base _ _ => ?_⟩
  have C_l_cell : Sd.Cal l.prog w K mg base CX0 1 "_law_cell" ["_law_script", "_law_k"] (Sd.spCell K) := Sd.Cal.mk' F1 (PySem.W.mg_of X G a1) B1 (ok_l_cell F1 T.toDr)
  have C_packed : Sd.Cal l.prog w K mg base (L2.CX l.prog w) 1 "packed" ["row"] (spPacked K A_NoNumber) := Sd.Cal.mk' F2 (PySem.W.mg_of X G a2) B2 (ok_packed F2 T)
  have C_l_refused : Sd.Cal l.prog w K mg base CX0 2 "_law_refused" ["_law_row"] (spRefused K) := Sd.Cal.mk' F3 (PySem.W.mg_of X G a3) B3 (ok_l_refused F3 T C_packed)
  exact ok_law F4 T C_l_cell C_packed C_l_refused
theorem walk {l : PySem.W.OpenLaw} {q : Program} {loose : List Str} {XP : (Str → Option Value) → Heap → Prop} {YP : World → Heap → Prop} {d : DefRec} {K : Params → PySem.W.Frag} (hn : l.most = some 63) (hdf : d.params.defaults = [])
    (hY : ∀ (w : World) (h : Heap), YP w h → (K w.params).In h)
    (F : ∀ (w : World) (mg : Str → Option Value) (fa : Addr) (h : Heap), (K w.params).In h → h.Ns mainGlobals mg → mg d.name = some (.ref fa) →
      ∃ fd : FuncData, (∀ (s : Shared) (u : Value), BindsTo s fd ⟨[u], []⟩ [("_law_script", u)]) ∧ ∀ base : Heap, (K w.params).In base → base.Ns mainGlobals mg → FnOk l.prog w (K w.params) mg base CX0 4 fa fd ["_law_script"] (spLaw (K w.params))) :
    PySem.W.WalkO q loose XP YP l.row.toRowW d [] (fun f vs => PySem.call f vs) :=
  L2.walk_of (n := 63) (k := 4) (x := "_law_script") (CX := fun _ => CX0) (sp := fun w => spLaw (K w.params)) hn (by decide) hdf ⟨rfl, by decide, by decide⟩ hY F (fun _ _ a ns hl _ hS => ⟨a, ns, rfl, hS, hl, fun _ => rfl⟩) fun _ _ _ _ _ z => z
end K02
open PySem PySem.W PyProof.Rows in
set_option maxRecDepth 100000 in
set_option maxHeartbeats 0 in
theorem PySem.Challenge.cw_stillhands_k02_no_number_holds : PySem.Challenge.rw_stillhands_k02_no_number.Holds := by
  w_on; o_law; k_head; (case hw => w_witness2)
  k_fill
  refine K02.walk (l := PySem.Challenge.rw_stillhands_k02_no_number) rfl rfl (fun w h Y => PySem.W.kIn_of Y) ?F
  case F =>
    intro w mg fa h KX G hmg
    refine' K02.all_mk KX G hmg ?a_HandsError ?a_NoNumber ?a_NoBox ?a_NoHand ?a_NoDeed ?x_NoNumber ?k_NoNumber ?b_NoNumber ?t_NoNumber ?bS_NoNumber ?hS_NoNumber ?tS_NoNumber ?u_NoNumber ?e1_NoNumber ?e2_NoNumber ?e3_NoNumber ?e4_NoNumber ?e5_NoNumber ?e6_NoNumber ?e7_NoNumber ?me_NoNumber ?ve_NoNumber ?no_NoNumber_NoBox ?no_NoNumber_NoDeed ?no_NoNumber_NoHand ?a1 ?l1 ?c1 ?k1 ?a2 ?l2 ?c2 ?k2 ?a3 ?l3 ?c3 ?k3 ?a4 ?l4 ?c4 ?k4 ?z_abs ?z_len ?z_list ?z_range ?z_reversed ?z_isinstance ?z_ValueError ?g_LIMIT
    (case a_HandsError => k_is)
    (case a_NoNumber => k_is)
    (case a_NoBox => k_is)
    (case a_NoHand => k_is)
    (case a_NoDeed => k_is)
    (case x_NoNumber => k_exc)
    (case k_NoNumber => k_is)
    (case b_NoNumber => k_is)
    (case t_NoNumber => k_is)
    (case bS_NoNumber => k_is)
    (case hS_NoNumber => k_is)
    (case tS_NoNumber => k_is)
    (case u_NoNumber => k_is)
    (case e1_NoNumber => k_is)
    (case e2_NoNumber => k_is)
    (case e3_NoNumber => k_is)
    (case e4_NoNumber => k_is)
    (case e5_NoNumber => k_is)
    (case e6_NoNumber => k_is)
    (case e7_NoNumber => k_is)
    (case me_NoNumber => kit_is)
    (case ve_NoNumber => kit_is)
    (case no_NoNumber_NoBox => kit_is)
    (case no_NoNumber_NoDeed => kit_is)
    (case no_NoNumber_NoHand => kit_is)
    (case a1 => k_is)
    (case l1 => k_is)
    (case c1 => k_is)
    (case k1 => k_is)
    (case a2 => k_is)
    (case l2 => k_is)
    (case c2 => k_is)
    (case k2 => k_is)
    (case a3 => k_is)
    (case l3 => k_is)
    (case c3 => k_is)
    (case k3 => k_is)
    (case a4 => k_is)
    (case l4 => k_is)
    (case c4 => k_is)
    (case k4 => k_is)
    (case z_abs => k_is)
    (case z_len => k_is)
    (case z_list => k_is)
    (case z_range => k_is)
    (case z_reversed => k_is)
    (case z_isinstance => k_is)
    (case z_ValueError => k_is)
    (case g_LIMIT => k_is)
