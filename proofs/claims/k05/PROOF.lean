import PyProof.Rows.All
import Wide.All
import OpenK.AllK
import Wide.FinOn
import HandS.ForMost
import HandS.ForExc
import HandS.Rev
import HandS.IsInst
import HandS.ExcIs
import HandS.Codes
import HandS.SortKw
import HandS.More
import HandS.DictTup
import HandS.CallRecv
import KE.RegKIsAll
import KE.SortData
import KE.DataMinMax
import KE.DatumOrd
import HandS.TupAny
import PySem.Challenge.RW_stillhands_k05_deeds_that_are_none
set_option Elab.async false
set_option linter.all false
set_option maxRecDepth 100000
set_option maxHeartbeats 4000000
/-! words of mine over the hand layer: a def that the module holds under a name (Cal), its call; lists; the draws of a script -/
namespace Sd
open PySem L2
/-- the module's name x holds a def that keeps sp -/
structure Cal (P : Program) (w : World) (K : PySem.W.Frag) (mg : Str → Option Value) (base : Heap) (CX : CXT) (k : Nat) (x : Str) (ps : List Str) (sp : Sp) : Prop where
  ex : ∃ f fd, mg x = some (.ref f) ∧ PySem.W.keepIn K (.ref f) = true ∧ Binds K fd ps [] ∧ FnOk P w K mg base CX k f fd ps sp
section
variable {X : Cx} {CX : CXT} {k : Nat} {ps : List Str} {sp : Sp} {E : XK} {x : Str} {p pos : Pos} {e : Expr} {es : List Expr} {t : TA}
theorem pe_fn (c : Cal X.prog X.w X.K X.mg X.base CX k x ps sp) (hr : Room k X.A) (hx : Passes CX X E) (ha : PA X (e :: es) t) (hg : Gl X x := by rfl)
    (hdb : (x == ("__debug__" : Str)) = false := by decide) (he : starEach (e :: es) X.env = (false, eval e X.env) :: starEach es X.env := by rfl) (hpl : (backTo pos (starEach es X.env)).any (·.1) = false := by rfl) :
    PE X (.Call (.Name x p) (e :: es) [] pos) (tCall sp [] E t) := by
  obtain ⟨f, fd, hm, hk, hb, F⟩ := c.ex
  exact pe_call F hr hg hm hk hb .nil hx ha hdb he hpl
theorem pe_fn0 (c : Cal X.prog X.w X.K X.mg X.base CX k x ps sp) (hr : Room k X.A) (hx : Passes CX X E) (hg : Gl X x := by rfl)
    (hdb : (x == ("__debug__" : Str)) = false := by decide) : PE X (.Call (.Name x p) [] [] pos) (tCall sp [] E tNil) := by
  obtain ⟨f, fd, hm, hk, hb, F⟩ := c.ex
  exact pe_call0 F hr hg hm hk hb .nil hx hdb
end
theorem Cal.mk' {P : Program} {w : World} {K : PySem.W.Frag} {mg : Str → Option Value} {base : Heap} {CX : CXT} {k : Nat} {x q : Str} {st : Stmt} {f : Addr} {fd : FuncData} {ps : List Str} {sp : Sp}
    (F : Fun K x q st f fd) (hm : mg x = some (.ref f)) (b : Binds K fd ps []) (G : FnOk P w K mg base CX k f fd ps sp) : Cal P w K mg base CX k x ps sp := ⟨f, fd, hm, F.kp, b, G⟩

/-! ### heaps -/
/-- what was tracked stands, but for the object at d -/
def But (d : Addr) (H H' : Hp) : Prop := ∀ b o, b ≠ d → H b = some o → H' b = some o
theorem But.refl (d : Addr) (H : Hp) : But d H H := fun _ _ _ h => h
theorem But.trans {d : Addr} {H H1 H2 : Hp} (a : But d H H1) (b : But d H1 H2) : But d H H2 := fun c o n h => b c o n (a c o n h)
theorem But.upd {d : Addr} {H : Hp} {o : HO} : But d H (upd H d o) := fun b u n h => by
  rw [upd_ne n]
  exact h
theorem Same.but {d : Addr} {H H' : Hp} (s : Same H H') : But d H H' := fun b o _ h => s b o h
theorem Same.new {H : Hp} {p : Addr} {o : HO} (h : H p = none) : Same H (upd H p o) := fun b u e => by
  rw [upd_ne (ne_of_none e h)]
  exact e
theorem Same.new2 {H : Hp} {p : Addr} {o o2 : HO} (h : H p = none) : Same H (upd (upd H p o) p o2) := fun b u e => by
  rw [upd_ne (ne_of_none e h), upd_ne (ne_of_none e h)]
  exact e
theorem But.same {d : Addr} {H H' : Hp} (s : But d H H') (h : H d = none) : Same H H' := fun b o e => s b o (ne_of_none e h) e
/-- the heap H' tracks what it did, and at d what it says -/
theorem But.free {d : Addr} {H H' : Hp} (s : But d H H') {u : HO} (hd : H' d = some u) {l : Addr} (h : H' l = none) : H l = none := by
  cases q : H l with
  | none => rfl
  | some o =>
    have n : l ≠ d := fun z => by
      rw [z, hd] at h
      cases h
    rw [s l o n q] at h
    cases h
theorem SqL.new {K : PySem.W.Frag} {H : Hp} {a p : Addr} {xs : List V} {o : HO} (h : SqL K H a xs) (n : H p = none) : SqL K (upd H p o) a xs := Same.seq (Same.new n) h
theorem SqL.but {K : PySem.W.Frag} {H H' : Hp} {a d : Addr} {xs : List V} (h : SqL K H a xs) (s : But d H H') (n : a ≠ d ∨ H d = none) : SqL K H' a xs := by
  rcases n with n | n
  · rcases h with (h | ⟨o, h⟩) | h
    · exact .inl (.inl (s _ _ n h))
    · exact .inl (.inr ⟨o, s _ _ n h⟩)
    · exact .inr h
  · exact Same.seq (s.same n) h
/-- a list that holds the object p is no list of ints -/
theorem SqL.keep {K : PySem.W.Frag} {H H' : Hp} {a d : Addr} {xs ys : List V} (h : SqL K H a xs) (s : But d H H') (hd : H d = some (.lst ys)) (n : ys ≠ xs) : SqL K H' a xs := by
  rcases h with (h | ⟨o, h⟩) | h
  · refine .inl (.inl (s _ _ (fun z => ?_) h))
    rw [z, hd] at h
    exact n (by cases h; rfl)
  · refine .inl (.inr ⟨o, s _ _ (fun z => ?_) h⟩)
    rw [z, hd] at h
    cases h
  · exact .inr h

/-! ### lists of ints -/
theorem ints_get {ns : List Int} {j : Nat} {v : Int} (h : ns[j]? = some v) : (ns.map V.int)[j]? = some (.int v) := by
  rw [List.getElem?_map, h]
  rfl
theorem ints_got {ns : List Int} {j : Nat} {y : V} (h : (ns.map V.int)[j]? = some y) : ∃ v, ns[j]? = some v ∧ y = .int v := by
  rw [List.getElem?_map] at h
  cases e : ns[j]? with
  | none =>
    rw [e] at h
    cases h
  | some v =>
    rw [e] at h
    exact ⟨v, rfl, (Option.some.inj h).symm⟩
theorem ixN_nat {n j : Nat} (hj : j < n) : ixN n ((j : Nat) : Int) = some j := by
  unfold ixN
  rw [if_pos (Int.natCast_nonneg j), if_pos (by omega), Int.toNat_natCast]
theorem size1 {n : Int} (h0 : 0 ≤ n) (h1 : n ≤ 100000) : 1 * n.toNat ≤ sizeLine := Nat.le_trans (by omega : 1 * n.toNat ≤ 100000) (by decide)
def dInts (ns : List Int) : PyData := .list (ns.map PyData.int)
theorem dInts_all {K : PySem.W.Frag} {H : Hp} : ∀ ns : List Int, DpAll K H (ns.map V.int) (ns.map PyData.int)
  | [] => .nil
  | n :: r => .cons (.int n) (dInts_all r)
theorem dInts_dp {K : PySem.W.Frag} {H : Hp} {a : Addr} {ns : List Int} (h : SqL K H a (ns.map V.int)) : Dp K H (.ref a) (dInts ns) := .lst h (dInts_all ns)
theorem lay_ints : ∀ ns : List Int, PyData.canLayAll0 (ns.map PyData.int) = true
  | [] => rfl
  | n :: r => by
    have h := lay_ints r
    show (PyData.canLay0 (.int n) && PyData.canLayAll0 (r.map PyData.int)) = true
    rw [h]
    rfl
theorem depth_ints : ∀ ns : List Int, PyData.depthAll (ns.map PyData.int) = 0
  | [] => rfl
  | n :: r => by
    have h := depth_ints r
    show max (PyData.depth (.int n)) (PyData.depthAll (r.map PyData.int)) = 0
    rw [h]
    rfl
theorem dInts_shaped (ns : List Int) : SeqAt.shaped (dInts ns) = true := by
  have h1 : PyData.canLay0 (dInts ns) = true := lay_ints ns
  have h2 : PyData.depth (dInts ns) = PyData.depthAll (ns.map PyData.int) + 1 := rfl
  rw [depth_ints] at h2
  unfold SeqAt.shaped
  rw [h1, h2]
  rfl
theorem eqv_all : ∀ ns : List Int, PyData.eqvAll (ns.map PyData.int) (ns.map PyData.int) = true
  | [] => rfl
  | n :: r => by
    have h := eqv_all r
    show (PyData.eqv (.int n) (.int n) && PyData.eqvAll (r.map PyData.int) (r.map PyData.int)) = true
    rw [h]
    show ((n == n) && true) = true
    rw [beq_self_eq_true]
    rfl
theorem eqv_ints (ns : List Int) : PyData.eqv (dInts ns) (dInts ns) = true := eqv_all ns
/-- an if whose test is known -/
theorem if_no {c : Bool} {A B : Prop} (h : c = true) (q : B) : if (!c) = true then A else B := by
  rw [h]
  exact q
theorem if_yes {c : Bool} {A B : Prop} (h : c = true) (q : A) : if c = true then A else B := by
  rw [h]
  exact q
theorem if_not {c : Bool} {A B : Prop} (h : c = false) (q : B) : if c = true then A else B := by
  rw [h]
  exact q
theorem ty_int {K : PySem.W.Frag} {H : Hp} {i : Int} : TyX K H (.int i) (.type "int") := .base (.int i)
theorem ty_lst {K : PySem.W.Frag} {H : Hp} {a : Addr} {xs : List V} (h : H a = some (.lst xs)) : TyX K H (.ref a) (.type "list") := .base (.lst h)
/-- a list that stood where p was free stands when p's object is laid or changed -/
theorem SqL.upd0 {K : PySem.W.Frag} {H0 H : Hp} {a p : Addr} {xs : List V} {o : HO} (h0 : SqL K H0 a xs) (hp : H0 p = none) (h : SqL K H a xs) : SqL K (upd H p o) a xs := by
  rcases h0 with h0 | h0
  · have n : a ≠ p := by
      rcases h0 with h0 | ⟨u, h0⟩
      · exact ne_of_none h0 hp
      · exact ne_of_none h0 hp
    exact SqL.but h (But.upd (d := p)) (.inl n)
  · exact .inr h0
theorem rep_flat (n : Nat) (i : Int) : (List.replicate n [V.int i]).flatten = (List.replicate n i).map V.int := by
  induction n with
  | zero => rfl
  | succ n ih =>
    rw [List.replicate_succ, List.replicate_succ, List.flatten_cons, ih]
    rfl
/-- an instance that is made: what stood, stands -/
theorem made_same {H H' : Hp} {x dx : Addr} {u v : HO} (h1 : H x = none) (h2 : H dx = none) (b : But x (upd (upd H dx u) x v) H') : Same H H' := fun c o e => by
  have n1 : c ≠ x := ne_of_none e h1
  have n2 : c ≠ dx := ne_of_none e h2
  refine b c o n1 ?_
  rw [upd_ne n1, upd_ne n2]
  exact e
theorem made_free {H : Hp} {x dx l : Addr} {u v : HO} (h1 : H x = none) (h2 : H dx = none) (h : upd (upd H dx u) x v l = none) : H l = none := by
  cases q : H l with
  | none => rfl
  | some o =>
    have n1 : l ≠ x := ne_of_none q h1
    have n2 : l ≠ dx := ne_of_none q h2
    rw [upd_ne n1, upd_ne n2, q] at h
    cases h
/-- a list that stood where p was free stands whatever p's object becomes -/
theorem SqL.other {K : PySem.W.Frag} {H0 H H' : Hp} {a p : Addr} {xs : List V} (h0 : SqL K H0 a xs) (hp : H0 p = none) (h : SqL K H a xs) (s : But p H H') : SqL K H' a xs := by
  rcases h0 with h0 | h0
  · have n : a ≠ p := by
      rcases h0 with h0 | ⟨u, h0⟩
      · exact ne_of_none h0 hp
      · exact ne_of_none h0 hp
    exact SqL.but h s (.inl n)
  · exact .inr h0
end Sd

/-! words of mine for refusals: what is raised, caught and looked at -/
namespace Sd
open PySem L2
section
variable {X : Cx} {CX : CXT} {k : Nat} {ps : List Str} {sp : Sp} {E : St → XK} {x : Str} {p pos : Pos} {e : Expr} {es : List Expr} {t : TA}
/-- a call in a try: what is raised is wished for at the slots -/
theorem pe_fnS (c : Cal X.prog X.w X.K X.mg X.base CX k x ps sp) (hr : Room k X.A) (hx : ∀ σ, PassesAt CX X σ (E σ)) (ha : PA X (e :: es) t) (hg : Gl X x := by rfl)
    (hdb : (x == ("__debug__" : Str)) = false := by decide) (he : starEach (e :: es) X.env = (false, eval e X.env) :: starEach es X.env := by rfl) (hpl : (backTo pos (starEach es X.env)).any (·.1) = false := by rfl) :
    PE X (.Call (.Name x p) (e :: es) [] pos) (tCallS sp E t) := by
  obtain ⟨f, fd, hm, hk, hb, F⟩ := c.ex
  exact pe_callS F hr hg hm hk hb hx ha hdb he hpl
end
/-- the error class at C, caught by the clause's class at S, and none of the classes at os -/
structure Ref (K : PySem.W.Frag) (C S : Addr) (os : List Addr) : Prop where
  ex : PySem.W.excIn K C [.type "ValueError", .type "Exception", .type "BaseException", .type "object"] "ValueError.__new__" = true
  kp : PySem.W.keepIn K (.ref C) = true
  b : PySem.W.subIn K (.ref C) (.type "BaseException") = some true
  t : PySem.W.typeIn K (.ref C) = some (.type "type")
  bS : PySem.W.subIn K (.ref S) (.type "BaseException") = some true
  hS : PySem.W.hasDictIn K S = true
  tS : PySem.W.typeIn K (.ref S) = some (.type "type")
  sub : PySem.W.subIn K (.ref C) (.ref S) = some true
  ec : ExcC K C
  me : PySem.W.kitOne K (.ref C) (.ref C) = some true
  ve : PySem.W.kitOne K (.ref C) (.type "ValueError") = some true
  su : PySem.W.kitOne K (.ref C) (.ref S) = some true
  no : ∀ o ∈ os, PySem.W.kitOne K (.ref C) (.ref o) = some false
theorem Ref.caught {K : PySem.W.Frag} {C S : Addr} {os : List Addr} (r : Ref K C S os) : PySem.W.exmOne K (.ref C) (.ref S) = some true := PySem.W.exm_ref r.bS r.hS r.tS r.sub
theorem Ref.none {K : PySem.W.Frag} {C S : Addr} : ∀ {os : List Addr}, (∀ o ∈ os, PySem.W.kitOne K (.ref C) (.ref o) = some false) → PySem.W.kitAny K (.ref C) (os.map Value.ref) = some false
  | [], _ => kitAny_nil
  | o :: os, h => kitAny_cons (h o List.mem_cons_self) (fun _ => Ref.none (S := S) fun x hx => h x (List.mem_cons_of_mem _ hx)) (fun z => by cases z)
theorem clsAll : ∀ os : List Addr, Paired ClsV (os.map V.ref) (os.map Value.ref)
  | [] => .nil
  | o :: os => .cons (.own o) (clsAll os)
/-- isinstance(e, c), e what the suite holds: one class, a tuple of classes -/
def rIsX (K : PySem.W.Frag) (a : Addr) (cls : Value) (d : Option Addr) : List V → Hp → VK → Prop := fun xs H Q => ∃ (D : Addr) (c : V) (cv : Value) (b : Bool),
  xs = [.ref a, c] ∧ cls = .ref D ∧ d = Option.none ∧ ExcC K D ∧ ClsV c cv ∧ PySem.W.kitOne K (.ref D) cv = some b ∧ Q (.bl b) H
def rIsXT (K : PySem.W.Frag) (a : Addr) (cls : Value) (d : Option Addr) : List V → Hp → VK → Prop := fun xs H Q => ∃ (D tp : Addr) (cs : List V) (us : List Value) (b : Bool),
  xs = [.ref a, .ref tp] ∧ cls = .ref D ∧ d = Option.none ∧ ExcC K D ∧ H tp = some (.tup cs) ∧ Paired ClsV cs us ∧ PySem.W.kitAny K (.ref D) us = some b ∧ Q (.bl b) H
theorem call_isX {X : Cx} {a : Addr} {cls : Value} {d : Option Addr} {oe : Obj} {pn : List (Addr × Obj)} (hz : Zc cls d oe) (hf : ∃ vs, oe.data = .fields vs) : CallR (X.suite a ((a, oe) :: pn)) (.builtin "isinstance") (rIsX X.K a cls d) := by
  intro pins s σ H xs us Q I r h
  obtain ⟨D, c, cv, b, rfl, rfl, rfl, C, k, e, q⟩ := h
  exact call_isE C hz hf pins s σ H [.ref a, c] us Q I r ⟨c, cv, b, rfl, fun u ru => k.eq ru, e, q⟩
theorem call_isXT {X : Cx} {a : Addr} {cls : Value} {d : Option Addr} {oe : Obj} {pn : List (Addr × Obj)} (hz : Zc cls d oe) (hf : ∃ vs, oe.data = .fields vs) : CallR (X.suite a ((a, oe) :: pn)) (.builtin "isinstance") (rIsXT X.K a cls d) := by
  intro pins s σ H xs us Q I r h
  obtain ⟨D, tp, cs, ws, b, rfl, rfl, rfl, C, hT, k, e, q⟩ := h
  obtain ⟨u1, u2, rfl, r1, r2⟩ := vals2 r
  cases (show u1 = Value.ref a from r1)
  cases (show u2 = Value.ref tp from r2)
  obtain ⟨hget, _⟩ := I.pin (a, oe) (List.mem_append.mpr (.inl List.mem_cons_self))
  obtain ⟨vs, hv⟩ := hf
  have J : PySem.W.InstAt s.heap a oe D none := by
    obtain ⟨oc, od, oda, osl⟩ := oe
    obtain ⟨h1, h2⟩ := hz
    dsimp only at h1 h2 hv
    subst h1 h2 hv
    exact ⟨hget, rfl, rfl, trivial⟩
  obtain ⟨_, its, rv, o, h1, h2, n, h3⟩ := (show ObjOk X.prog X.w H s.heap tp (.tup cs) from I.hok tp _ hT)
  have e3 := ClsV.all k rv
  subst e3
  obtain ⟨oc, od, dt, sl⟩ := o
  simp only at h2 h3
  subst h2 h3
  exact PySem.W.kia_tup (PySem.W.handS_kitx_exc C.hg C.hk C.hs C.hd C.ha C.hn C.ht C.hm) I.kIn J h1 e (fun z => nomatch z) fun tk => ⟨.bl b, H, I.kept (t' := tk) fun _ _ z => z, rfl, q⟩
end Sd

/-! words of mine for classes: a method, a call of the class -/
namespace Sd
open PySem L2
structure CalM (P : Program) (w : World) (K : PySem.W.Frag) (mg : Str → Option Value) (base : Heap) (CX : CXT) (k : Nat) (C : Addr) (m : Str) (ps : List Str) (sp : Sp) : Prop where
  cl : Cls K C
  ex : ∃ f fd, Meth K C m f ∧ Binds K fd ps [] ∧ FnOk P w K mg base CX k f fd ps sp
structure CalI (P : Program) (w : World) (K : PySem.W.Frag) (mg : Str → Option Value) (base : Heap) (CX : CXT) (k : Nat) (x : Str) (C : Addr) (ps : List Str) (sp : Sp) : Prop where
  at_ : mg x = some (.ref C)
  ex : ∃ f fd, Mk K C f ∧ Binds K fd ps [] ∧ FnOk P w K mg base CX k f fd ps sp
section
variable {P : Program} {w : World} {K : PySem.W.Frag} {mg : Str → Option Value} {base : Heap} {CX : CXT} {k : Nat} {x q m : Str} {st : Stmt} {f C : Addr} {fd : FuncData} {ps : List Str} {sp : Sp}
theorem CalM.mk' (_ : Fun K m q st f fd) (c : Cls K C) (h : Meth K C m f) (b : Binds K fd ps []) (G : FnOk P w K mg base CX k f fd ps sp) : CalM P w K mg base CX k C m ps sp := ⟨c, f, fd, h, b, G⟩
theorem CalI.mk' (_ : Fun K m q st f fd) (hm : mg x = some (.ref C)) (h : Mk K C f) (b : Binds K fd ps []) (G : FnOk P w K mg base CX k f fd ps sp) : CalI P w K mg base CX k x C ps sp := ⟨hm, f, fd, h, b, G⟩
end
section
variable {X : Cx} {CX : CXT} {k : Nat} {C : Addr} {ps : List Str} {sp : Sp} {E : XK} {ES : St → XK} {x m : Str} {p pos apos : Pos} {e o : Expr} {es : List Expr} {ta : TE} {t : TA}
/-- how the text's call of a method goes: the object, the method found, its arguments -/
abbrev Goes (X : Cx) (o : Expr) (m : Str) (es : List Expr) (apos pos : Pos) (pl : Sem Bool) : Prop :=
  eval (.Call (.Attribute o m apos) es [] pos) X.env =
    (eval o X.env >>= fun v => standAt apos.atName >>= fun _ => holding [v] (getMethod v m pl) >>= fun g => callWith pos g.1 g.2 (backTo pos (starEach es X.env)) (backToKw pos (keywordEach [] X.env)))
theorem pe_mt {pl : Sem Bool} (c : CalM X.prog X.w X.K X.mg X.base CX k C m ps sp) (hr : Room k X.A) (hx : Passes CX X E) (he : PE X o ta) (ha : PA X (e :: es) t)
    (hst : starEach (e :: es) X.env = (false, eval e X.env) :: starEach es X.env := by rfl) (hpl : (backTo pos (starEach es X.env)).any (·.1) = false := by rfl)
    (ht : Goes X o m (e :: es) apos pos pl := by rfl) : PE X (.Call (.Attribute o m apos) (e :: es) [] pos) (tMeth C m sp [] E ta t) := by
  obtain ⟨f, fd, hm, hb, F⟩ := c.ex
  exact pe_meth he c.cl hm F hr hb .nil hx ha hst hpl ht
theorem pe_mt0 {pl : Sem Bool} (c : CalM X.prog X.w X.K X.mg X.base CX k C m ps sp) (hr : Room k X.A) (hx : Passes CX X E) (he : PE X o ta)
    (ht : Goes X o m [] apos pos pl := by rfl) : PE X (.Call (.Attribute o m apos) [] [] pos) (tMeth C m sp [] E ta tNil) := by
  obtain ⟨f, fd, hm, hb, F⟩ := c.ex
  exact pe_meth0 he c.cl hm F hr hb .nil hx ht
/-- .. in a try: what is raised is wished for at the slots -/
def tMtS (C : Addr) (m : Str) (sp : Sp) (E : St → XK) (ta : TE) (t : TA) : TE := fun σ H Q =>
  ta σ H fun x H1 => ∃ a dx fs, x = .ref a ∧ H1 a = some (.ins C dx fs) ∧ fs.lookup m = none ∧ t σ H1 fun vs H2 => sp (x :: vs) H2 Q (E σ)
theorem pe_mtS {pl : Sem Bool} (c : CalM X.prog X.w X.K X.mg X.base CX k C m ps sp) (hr : Room k X.A) (hx : ∀ σ, PassesAt CX X σ (ES σ)) (he : PE X o ta) (ha : PA X (e :: es) t)
    (hst : starEach (e :: es) X.env = (false, eval e X.env) :: starEach es X.env := by rfl) (hpl : (backTo pos (starEach es X.env)).any (·.1) = false := by rfl)
    (ht : Goes X o m (e :: es) apos pos pl := by rfl) : PE X (.Call (.Attribute o m apos) (e :: es) [] pos) (tMtS C m sp ES ta t) := by
  obtain ⟨f, fd, hm, hb, F⟩ := c.ex
  refine ⟨fun pins s σ H R I h => PySem.W.methodCall_KW (pl := pl) (thn (he.run pins s σ H _ I h) fun u s1 hh => ?_) ht⟩
  obtain ⟨y, H1, I1, ry, a, dx, fs, rfl, hins, hno, q⟩ := hh
  cases (show u = Value.ref a from ry)
  refine getmeth_ok I1 hins c.cl hm hno (PySem.W.callWith_K (first := [.ref a]) (h₀ := X.base) I.ok.mod.kin hm.kp (thn (ha.run pos pins s1 σ H1 _ I1 q) fun us s2 h2 => ?_) hst hpl)
  obtain ⟨vs, H2, I2, rv, q2⟩ := h2
  exact ⟨I2.kIn, run_fnS (us := .ref a :: us) (vs := .ref a :: vs) F hr hb (hx σ) I2 (.cons rfl rv) q2⟩
theorem pe_mk (c : CalI X.prog X.w X.K X.mg X.base CX k x C ps sp) (hr : Room (k + 1) X.A) (hx : Passes CX X E) (ha : PA X (e :: es) t) (hg : Gl X x := by rfl)
    (hdb : (x == ("__debug__" : Str)) = false := by decide) (he : starEach (e :: es) X.env = (false, eval e X.env) :: starEach es X.env := by rfl) (hpl : (backTo pos (starEach es X.env)).any (·.1) = false := by rfl) :
    PE X (.Call (.Name x p) (e :: es) [] pos) (tMake C sp [] E t) := by
  obtain ⟨f, fd, M, hb, F⟩ := c.ex
  exact pe_make M F hr hg c.at_ hb .nil hx ha hdb he hpl
theorem pe_mk0 (c : CalI X.prog X.w X.K X.mg X.base CX k x C ps sp) (hr : Room (k + 1) X.A) (hx : Passes CX X E) (hg : Gl X x := by rfl)
    (hdb : (x == ("__debug__" : Str)) = false := by decide) : PE X (.Call (.Name x p) [] [] pos) (tMake C sp [] E tNil) := by
  obtain ⟨f, fd, M, hb, F⟩ := c.ex
  exact pe_make0 M F hr hg c.at_ hb .nil hx hdb
end
end Sd

/-! written dicts and tuples -/
namespace Sd
open PySem L2
structure KD (K : PySem.W.Frag) (w : World) (mg : Str → Option Value) (x : Str) (A : Addr) (kv : List (Str × Int)) (no : List Str) : Prop where
  m : mg x = some (.ref A)
  lk : ∃ es n, K.lookup A = some ⟨.type "dict", none, .dict es n, #[]⟩ ∧ PySem.W.KeysLit w.params es.toList
  lo : (A == sysModules) = false
  at_ : ∀ p ∈ kv, ∃ t, PySem.W.nsIn K A p.1 = some (some (.int p.2 t))
  no_ : ∀ z ∈ no, PySem.W.nsIn K A z = some none
theorem KD.get {K : PySem.W.Frag} {w : World} {mg : Str → Option Value} {x : Str} {A : Addr} {kv : List (Str × Int)} {no : List Str} (k : KD K w mg x A kv no) {z : Str} {v : Int} (h : (z, v) ∈ kv) : KDct K w A z (.int v) := by
  obtain ⟨es, n, h1, h2⟩ := k.lk
  obtain ⟨t, h3⟩ := k.at_ _ h
  exact ⟨es, n, .int v t, h1, h2, h3, ⟨t, rfl⟩⟩
structure KT (K : PySem.W.Frag) (mg : Str → Option Value) (x : Str) (A : Addr) (ws : List Str) : Prop where
  m : mg x = some (.ref A)
  sq : ∃ (o : Obj) (its : Array Value) (n : Nat), K.lookup A = some o ∧ o.cls = .type "tuple" ∧ o.data = .seq its n ∧ its.size ≤ sizeLine ∧ Vals (ws.map V.str) its.toList
theorem KT.at_ {K : PySem.W.Frag} {mg : Str → Option Value} {x : Str} {A : Addr} {ws : List Str} (k : KT K mg x A ws) (H : Hp) : SqT K H A (ws.map V.str) := .inr k.sq
section
variable {X : Cx} {CX : CXT} {k : Nat} {C : Addr} {ps : List Str} {sp : Sp} {ES : St → XK} {x : Str} {p pos : Pos} {e : Expr} {es : List Expr} {t : TA}
/-- a call of a class in a try: what is raised is wished for at the slots -/
def tMakeS (C : Addr) (sp : Sp) (E : St → XK) (t : TA) : TE := fun σ H Q => t σ H fun vs H1 => ∀ x dx, H1 x = none → H1 dx = none → dx ≠ x → sp (.ref x :: vs) (upd (upd H1 dx (.own x)) x (.ins C dx [])) (fun v H2 => v = .non ∧ Q (.ref x) H2) (E σ)
theorem pe_mkS (c : CalI X.prog X.w X.K X.mg X.base CX k x C ps sp) (hr : Room (k + 1) X.A) (hx : ∀ σ, PassesAt CX X σ (ES σ)) (ha : PA X (e :: es) t) (hg : Gl X x := by rfl)
    (hdb : (x == ("__debug__" : Str)) = false := by decide) (he : starEach (e :: es) X.env = (false, eval e X.env) :: starEach es X.env := by rfl) (hpl : (backTo pos (starEach es X.env)).any (·.1) = false := by rfl) :
    PE X (.Call (.Name x p) (e :: es) [] pos) (tMakeS C sp ES t) := by
  obtain ⟨f, fd, M, hb, F⟩ := c.ex
  refine ⟨fun pins s σ H Q I h => ?_⟩
  refine wpAny_Call_Name_kw (ld_glob I hg c.at_ ?_ hdb)
  refine PySem.W.callWith_K (h₀ := X.base) I.ok.mod.kin M.kp (thn (ha.run pos pins s σ H _ I h) fun us s1 ⟨vs, H1, I1, r, q⟩ => ⟨I1.kIn, ?_⟩) he hpl
  have hq := q (s1.heap.objs.size + 1) s1.heap.objs.size (I1.hok.fresh (Nat.le_succ _)) (I1.hok.fresh (Nat.le_refl _)) (Nat.ne_of_lt (Nat.lt_succ_self _))
  have I2 := Inv.made (C := C) I1
  have r2 : Vals (V.ref (s1.heap.objs.size + 1) :: vs) (Value.ref (s1.heap.objs.size + 1) :: us) := .cons rfl r
  have hl : (Value.ref (s1.heap.objs.size + 1) :: us).length = ps.length := by
    have e := r2.length
    rw [F.len _ _ _ _ hq] at e
    exact e.symm
  have b := hb { s1 with heap := _ } (Value.ref (s1.heap.objs.size + 1) :: us) I2.kIn (by rw [List.append_nil]; exact hl)
  rw [List.append_nil] at b
  refine wpAny_call (make_map (f := f) I1.kIn M.makes M.init (beq_iff_eq.mp M.fn) (codeAny_mono (F.run _ X.stack _ _ ⟨Value.ref (s1.heap.objs.size + 1) :: us, []⟩ (Value.ref (s1.heap.objs.size + 1) :: us) _ _ (ES σ) (hr.make C us [])
    (I2.env0.make C us []) b r2 hq) fun r s' hq' => ?_))
  cases r with
  | error e => exact hx σ pins _ _ e s' I2 hq'
  | ok fl =>
    cases fl with
    | ret u =>
      obtain ⟨v, H', I3, rv, ev, q3⟩ := I2.after hq'
      subst ev
      exact ⟨rv, ⟨V.ref (s1.heap.objs.size + 1), H', I3, rfl, q3⟩⟩
    | next => exact False.elim hq'
    | brk => exact False.elim hq'
    | cont => exact False.elim hq'
end
end Sd

/-! rules of mine -/
namespace Sd
open PySem PySem.Spec PyProof.Rows L2 PySem.W
section
variable {X : Cx}
/-- x not in d, d a written dict with text keys -/
def rNotKD (K : PySem.W.Frag) (w : World) : R2 := fun x y H Q => ∃ (z : Str) (p : Addr) (es : Array DictEntry) (n : Nat) (r : Option Value), x = .str z ∧ y = .ref p ∧ K.lookup p = some ⟨.type "dict", none, .dict es n, #[]⟩ ∧ PySem.W.KeysLit w.params es.toList ∧
  (p == sysModules) = false ∧ PySem.W.nsIn K p z = some r ∧ Q (.bl (!r.isSome)) H
theorem op_notKD : OpR X (compareOp .NotIn) (rNotKD X.K X.w) := by
  intro pins s σ H x y v u Q I rx ry h
  obtain ⟨z, p, es, n, r, rfl, rfl, hl, hk, lo, e, q⟩ := h
  obtain ⟨t, rfl⟩ := rx
  obtain rfl : u = Value.ref p := ry
  refine wpAny_notIn_of (strKind_is X.prog X.w z t) lo (PySem.W.mapOf_K (prog := X.prog) (w := X.w) I.kIn hl hk) ?_
  rw [PySem.W.find_K hl e]
  exact ⟨.bl (!r.isSome), H, I.tok _, rfl, q⟩
/-- xs[i] as the read of xs[i] op= e -/
theorem pget_list : PGet X (rIxL X.K) := by
  intro pins s σ H x y v u Q I rx ry h
  obtain ⟨p, xs, i, z, rfl, rfl, hq, he, q⟩ := h
  cases rx
  obtain ⟨t, rfl⟩ := ry
  obtain ⟨its, r, pl, hz⟩ := I.list hq
  obtain ⟨j, h1, h2, h3, h4, h5⟩ := atI_get he
  obtain ⟨w, ew, rw'⟩ := r.get h2
  have hl := r.length
  have hn := line63
  have fin : EP X pins σ Q w s := ⟨z, H, I, rw', q⟩
  by_cases h0 : 0 ≤ i
  · have hj : i.toNat = j := by
      rw [seqIndex_of h0 h5] at h1
      exact Option.some.inj h1
    exact wpAny_getItem_list pl.isList h0 (by omega) (by rw [hj]; simpa using ew) fin
  · have hj : (i + (its.toArray.size : Int)).toNat = j := by
      rw [seqIndex_neg (by omega) h4] at h1
      rw [List.size_toArray, ← hl]
      exact Option.some.inj h1
    exact wpAny_getItem_list_neg pl.isList (by omega) (by rw [List.size_toArray] <;> omega) (by omega) (by rw [hj]; simpa using ew) fin
/-- max(xs, default=d), ints -/
def rMaxDef (K : PySem.W.Frag) : List V → List V → Hp → VK → Prop := fun vs zs H Q => ∃ (a : Addr) (ns : List Int) (d : V), vs = [V.ref a] ∧ zs = [d] ∧ SqL K H a (ns.map V.int) ∧ (ns = [] → Q d H) ∧ ∀ m, m ∈ ns → (∀ y, y ∈ ns → y ≤ m) → Q (.int m) H
/-- min of a list of tuples of ints -/
def rMinT (K : PySem.W.Frag) : List V → Hp → VK → Prop := fun vs H Q => ∃ (a : Addr) (bs : List (Addr × List Int)), vs = [V.ref a] ∧ SqL K H a (bs.map fun b => V.ref b.1) ∧ (∀ b ∈ bs, SqT K H b.1 (b.2.map V.int)) ∧ bs ≠ [] ∧ bs.length < 100000 ∧
  ∀ b ∈ bs, (∀ c ∈ bs, listLt c.2 b.2 = false) → Q (.ref b.1) H
theorem maxOf_int (x : Int) (xs : List Int) : maxOf x xs ∈ x :: xs ∧ ∀ y ∈ x :: xs, y ≤ maxOf x xs := by
  unfold maxOf
  induction xs generalizing x with
  | nil => exact ⟨List.mem_cons_self, fun y hy => by rw [List.mem_singleton.mp hy]; exact Int.le_refl _⟩
  | cons z zs ih =>
    rw [List.foldl_cons]
    obtain ⟨h1, h2⟩ := ih (if DatumOrd.lt x z = true then z else x)
    have e : DatumOrd.lt x z = decide (x < z) := rfl
    by_cases c : x < z
    · rw [e, decide_eq_true c, if_pos rfl] at h1 h2 ⊢
      refine ⟨List.mem_cons_of_mem _ h1, fun y hy => ?_⟩
      rcases List.mem_cons.mp hy with rfl | hy
      · exact Int.le_trans (Int.le_of_lt c) (h2 z List.mem_cons_self)
      · exact h2 y hy
    · rw [e, decide_eq_false c, if_neg Bool.false_ne_true] at h1 h2 ⊢
      refine ⟨?_, fun y hy => ?_⟩
      · rcases List.mem_cons.mp h1 with h1 | h1
        · rw [h1]; exact List.mem_cons_self
        · exact List.mem_cons_of_mem _ (List.mem_cons_of_mem _ h1)
      · rcases List.mem_cons.mp hy with rfl | hy
        · exact h2 y List.mem_cons_self
        · rcases List.mem_cons.mp hy with rfl | hy
          · exact Int.le_trans (by omega) (h2 x List.mem_cons_self)
          · exact h2 y (List.mem_cons_of_mem _ hy)
theorem cr_maxDef (hc : X.calm = true) (hu : X.A.units + 64 < cLine) : CallRK X (.builtin "max") ["default"] (rMaxDef X.K) := by
  intro pins s σ H xs zs us ws Q I r1 r2 h
  obtain ⟨a, ns, d, rfl, rfl, hs, q0, q⟩ := h
  obtain ⟨its, rv, hl, _⟩ := I.list hs
  rw [Vals.ref1 r1]
  cases r2 with
  | cons rd rn =>
    cases rn
    rename_i wd
    refine max_list_datum_default (α := Int) (d := wd) (I.ok.hd hc) hl.isList (HoldAll.of_ints rv.ints) (by show X.A.units + 1 + 0 < cLine; omega) (fun e h' tk hk => ⟨d, H, I.kept hk, rd, q0 e⟩) fun y ys i v h' tk e hi Hm hk => ?_
    obtain ⟨m1, m2⟩ := maxOf_int y ys
    obtain ⟨as, rr⟩ := Hm
    have hv : ∃ t, v = .int (maxOf y ys) t := by
      cases (show Reads h' v (.int (maxOf y ys)) as from rr) with
      | int i t => exact ⟨t, rfl⟩
    obtain ⟨t, rfl⟩ := hv
    exact ⟨.int (maxOf y ys), H, I.kept hk, ⟨t, rfl⟩, q _ (by rw [e]; exact m1) (by rw [e]; exact m2)⟩
theorem lLt_irr : ∀ a : List Int, listLt a a = false
  | [] => rfl
  | x :: xs => by
    show (if x = x then listLt xs xs else _) = false
    rw [if_pos rfl]
    exact lLt_irr xs
theorem lLt_tr : ∀ a b c : List Int, listLt a b = true → listLt b c = true → listLt a c = true
  | [], [], _, h, _ => by cases h
  | [], _ :: _, [], _, h => by cases h
  | [], _ :: _, _ :: _, _, _ => rfl
  | _ :: _, [], _, h, _ => by cases h
  | _ :: _, _ :: _, [], _, h => by cases h
  | x :: xs, y :: ys, z :: zs, h, k => by
    have h' : (if x = y then listLt xs ys else decide (x < y)) = true := h
    have k' : (if y = z then listLt ys zs else decide (y < z)) = true := k
    show (if x = z then listLt xs zs else decide (x < z)) = true
    by_cases c1 : x = y
    · rw [if_pos c1] at h'
      by_cases c2 : y = z
      · rw [if_pos c2] at k'
        rw [if_pos (c1.trans c2)]
        exact lLt_tr xs ys zs h' k'
      · rw [if_neg c2] at k'
        rw [c1, if_neg c2]
        exact k'
    · rw [if_neg c1] at h'
      have h1 := of_decide_eq_true h'
      by_cases c2 : y = z
      · rw [← c2, if_neg c1]
        exact h'
      · rw [if_neg c2] at k'
        have k1 := of_decide_eq_true k'
        rw [if_neg (by omega)]
        exact decide_eq_true (by omega)
theorem lLt_tri : ∀ a b : List Int, listLt a b = true ∨ a = b ∨ listLt b a = true
  | [], [] => .inr (.inl rfl)
  | [], _ :: _ => .inl rfl
  | _ :: _, [] => .inr (.inr rfl)
  | x :: xs, y :: ys => by
    show (if x = y then listLt xs ys else decide (x < y)) = true ∨ x :: xs = y :: ys ∨ (if y = x then listLt ys xs else decide (y < x)) = true
    by_cases c : x = y
    · rw [if_pos c, if_pos c.symm]
      rcases lLt_tri xs ys with h | h | h
      · exact .inl h
      · exact .inr (.inl (by rw [c, h]))
      · exact .inr (.inr h)
    · rw [if_neg c, if_neg (Ne.symm c)]
      by_cases d : x < y
      · exact .inl (decide_eq_true d)
      · exact .inr (.inr (decide_eq_true (by omega)))
theorem lMin_no {x y m : List Int} (c : ¬ listLt y x = true) (hx : listLt x m = false) (f : listLt y m = true) : False := by
  rcases lLt_tri y x with h | h | h
  · exact c h
  · rw [h, hx] at f
    cases f
  · have := lLt_tr _ _ _ h f
    rw [hx] at this
    cases this
theorem minOf_tup (x : Tup Int) (xs : List (Tup Int)) : ∀ y ∈ x :: xs, listLt y.items (minOf x xs).items = false := by
  unfold minOf
  induction xs generalizing x with
  | nil =>
    intro y hy
    rw [List.mem_singleton.mp hy]
    exact lLt_irr _
  | cons z zs ih =>
    rw [List.foldl_cons]
    have e : DatumOrd.lt z x = listLt z.items x.items := rfl
    have h := ih (if DatumOrd.lt z x = true then z else x)
    intro y hy
    by_cases c : listLt z.items x.items = true
    · rw [e, c, if_pos rfl] at h ⊢
      rcases List.mem_cons.mp hy with rfl | hy
      · cases f : listLt y.items (List.foldl (fun a y => if DatumOrd.lt y a = true then y else a) z zs).items with
        | false => rfl
        | true =>
          have := lLt_tr _ _ _ c f
          rw [h z List.mem_cons_self] at this
          cases this
      · exact h y hy
    · rw [e, if_neg c] at h ⊢
      rcases List.mem_cons.mp hy with rfl | hy
      · exact h y List.mem_cons_self
      · rcases List.mem_cons.mp hy with rfl | hy
        · cases f : listLt y.items (List.foldl (fun a y => if DatumOrd.lt y a = true then y else a) x zs).items with
          | false => rfl
          | true =>
            -- the least is not less than x, and y is not less than x
            exfalso
            have hx := h x List.mem_cons_self
            exact lMin_no c hx f
        · exact h y (List.mem_cons_of_mem _ hy)
theorem dpTups {K : PySem.W.Frag} {H : Hp} : ∀ bs : List (Addr × List Int), (∀ b ∈ bs, SqT K H b.1 (b.2.map V.int)) → DpAll K H (bs.map fun b => V.ref b.1) (bs.map fun b => PyData.tuple (b.2.map PyData.int))
  | [], _ => .nil
  | b :: bs, h => .cons (.tup (h b List.mem_cons_self) (dInts_all b.2)) (dpTups bs fun c hc => h c (List.mem_cons_of_mem _ hc))
theorem toD_tups (bs : List (Addr × List Int)) : (bs.map fun b => (⟨b.2⟩ : Tup Int)).map Datum.toD = bs.map fun b => PyData.tuple (b.2.map PyData.int) := by
  rw [List.map_map]
  rfl
theorem ints_inj : ∀ {a b : List Int}, a.map PyData.int = b.map PyData.int → a = b
  | [], [], _ => rfl
  | [], _ :: _, h => by cases h
  | _ :: _, [], h => by cases h
  | x :: xs, y :: ys, h => by
    rw [List.map_cons, List.map_cons] at h
    injection h with h1 h2
    injection h1 with h1
    rw [h1, ints_inj h2]
theorem vals_back {xs : List V} {us : List Value} {i : Nat} {u : Value} (r : Vals xs us) (h : us[i]? = some u) : ∃ x, xs[i]? = some x ∧ RelV x u := by
  cases e : xs[i]? with
  | none =>
    rw [r.none_of e] at h
    cases h
  | some x =>
    obtain ⟨w, hw, rw'⟩ := r.get e
    rw [h] at hw
    cases hw
    exact ⟨x, rfl, rw'⟩
theorem cr_minT (hc : X.calm = true) (hu : X.A.units + 64 < cLine) : CallR X (.builtin "min") (rMinT X.K) := by
  intro pins s σ H xs us Q I r h
  obtain ⟨a, bs, rfl, hs, ht, hne, hb, q⟩ := h
  obtain ⟨its, rv, hl, _⟩ := I.list hs
  rw [Vals.ref1 r]
  obtain ⟨as, ra⟩ := Dp.readsAll I (bs.map fun b => PyData.tuple (b.2.map PyData.int)) _ its (dpTups bs ht) rv
  cases bs with
  | nil => exact absurd rfl hne
  | cons b br =>
    have HA : HoldAll s.heap its ((⟨b.2⟩ : Tup Int) :: br.map fun b => ⟨b.2⟩) := ⟨as, by
      have := toD_tups (b :: br)
      rw [List.map_cons] at this
      rw [this]
      exact ra⟩
    refine min_list_datum (α := Tup Int) (I.ok.hd hc) hl.isList HA (by show X.A.units + 1 + 1 < cLine; omega) fun i v h' tk hi Hm hk => ?_
    have hi' : its[i]? = some v := by simpa using hi
    obtain ⟨x, hx, Hx⟩ := HA.at hi'
    obtain ⟨y, hy, ry⟩ := vals_back rv hi'
    rw [List.getElem?_map] at hy
    cases hbi : (b :: br)[i]? with
    | none => rw [hbi] at hy; cases hy
    | some c =>
      rw [hbi] at hy
      cases hy
      have hx2 : x = ⟨c.2⟩ := by
        have e : ((⟨b.2⟩ : Tup Int) :: br.map fun b => ⟨b.2⟩)[i]? = some ⟨c.2⟩ := by
          have := congrArg (Option.map fun b : Addr × List Int => (⟨b.2⟩ : Tup Int)) hbi
          rw [← List.getElem?_map, List.map_cons] at this
          exact this
        rw [e] at hx
        exact (Option.some.inj hx).symm
      subst hx2
      obtain ⟨a1, r1⟩ := Hx.keeps hk
      obtain ⟨a2, r2⟩ := Hm
      have e := (Reads.unique r1 _ _ r2).1
      have e2 : c.2 = (minOf (⟨b.2⟩ : Tup Int) (br.map fun b => ⟨b.2⟩)).items := by
        injection e with e
        exact ints_inj e
      have hc2 : c ∈ b :: br := List.mem_of_getElem? hbi
      refine ⟨.ref c.1, H, I.kept hk, ry, q c hc2 fun d hd => ?_⟩
      rw [e2]
      refine minOf_tup _ _ ⟨d.2⟩ ?_
      have := List.mem_map_of_mem (f := fun b : Addr × List Int => (⟨b.2⟩ : Tup Int)) hd
      rw [List.map_cons] at this
      exact this
def leT (b c : Addr × List Int) : Bool := !listLt c.2 b.2
def rSortT (K : PySem.W.Frag) : List V → Hp → VK → Prop := fun vs H Q => ∃ (a : Addr) (bs : List (Addr × List Int)), vs = [V.ref a] ∧ SqL K H a (bs.map fun b => V.ref b.1) ∧ (∀ b ∈ bs, SqT K H b.1 (b.2.map V.int)) ∧ (∀ b ∈ bs, b.2 ≠ []) ∧ bs.length < 100000 ∧
  ∀ p, H p = none → Q (.ref p) (upd H p (.lst ((bs.mergeSort leT).map fun b => V.ref b.1)))
abbrev encT (b : Addr × List Int) : PyData := .tuple (b.2.map PyData.int)
theorem each_of : ∀ (bs : List (Addr × List Int)) (us : List Value), Vals (bs.map fun b => V.ref b.1) us → EachIs (fun v b => v = Value.ref b.1) us bs
  | [], _, h => by
    cases h
    exact .nil
  | b :: bs, _, h => by
    cases h with
    | cons r t => exact .cons r (each_of bs _ t)
theorem vals_of_each : ∀ (us : List Value) (bs : List (Addr × List Int)), EachIs (fun v b => v = Value.ref b.1) us bs → Vals (bs.map fun b => V.ref b.1) us
  | _, _, .nil => .nil
  | _, _, .cons r t => .cons r (vals_of_each _ _ t)
theorem each_reads {X : Cx} {pins : List (Addr × Obj)} {σ : L2.St} {H : Hp} {s : Shared} (I : Inv X pins σ H s) : ∀ (bs : List (Addr × List Int)) (us : List Value), (∀ b ∈ bs, SqT X.K H b.1 (b.2.map V.int)) → Vals (bs.map fun b => V.ref b.1) us → EachIs (fun v b => ∃ as, Reads s.heap v (encT b) as) us bs
  | [], _, _, h => by
    cases h
    exact .nil
  | b :: bs, _, ht, h => by
    cases h with
    | cons r t => exact .cons (Dp.reads I (encT b) _ _ (.tup (ht b List.mem_cons_self) (dInts_all b.2)) r) (each_reads I bs _ (fun c hc => ht c (List.mem_cons_of_mem _ hc)) t)
theorem dataLe_T : dataLe false encT = leT := by
  funext b c
  show (!dataLt (encT c) (encT b)) = _
  have e := DatumOrd.lt_eq (⟨c.2⟩ : Tup Int) ⟨b.2⟩
  have e2 : dataLt (encT c) (encT b) = DatumOrd.lt (⟨c.2⟩ : Tup Int) ⟨b.2⟩ := e
  rw [e2]
  rfl
theorem cr_sortT (hu : X.A.units + 64 < cLine) : CallR X (.builtin "sorted") (rSortT X.K) := by
  intro pins s σ H xs us Q I r h
  obtain ⟨a, bs, rfl, hs, ht, hne, hb, q⟩ := h
  obtain ⟨its, rv, hl, _⟩ := I.list hs
  rw [Vals.ref1 r]
  have hk : Sortable (bs.map encT) := by
    refine .inl fun d hd => ?_
    obtain ⟨b, hb2, rfl⟩ := List.mem_map.mp hd
    have := hne b hb2
    cases e : b.2 with
    | nil => exact absurd e this
    | cons x r =>
      rw [encT, e]
      exact ⟨_, _, rfl⟩
  refine sorted_data (R := fun v (b : Addr × List Int) => v = Value.ref b.1) (enc := encT) hl.isList (each_of bs its rv) ?_ ?_ hk ?_ ?_ fun out ho hE => ?_
  · exact each_reads I bs its ht rv
  · exact AllAlike.of fun b b' => by
      show alike (.tuple _) (.tuple _) = true
      simp only [alike]
      exact alike_ints _ _
  · exact Nat.le_trans (Nat.le_of_lt hb) (by decide)
  · intro b _
    show X.A.units + 2 + (PyData.depth (.tuple (b.2.map PyData.int))) < cLine
    have : PyData.depth (.tuple (b.2.map PyData.int)) = PyData.depthAll (b.2.map PyData.int) + 1 := rfl
    rw [this, Sd.depth_ints]
    omega
  · rw [dataLe_T] at hE
    obtain ⟨ep, he'⟩ := PyProof.Rows.sortedAll_at s.heap its out.toArray
    have hlen : ((bs.mergeSort leT).map fun b => V.ref b.1).length ≤ sizeLine := by
      rw [List.length_map, List.length_mergeSort]
      exact Nat.le_trans (Nat.le_of_lt hb) (by decide)
    exact ⟨.ref _, upd H (s.heap.objs.size + 1) (.lst ((bs.mergeSort leT).map fun b => V.ref b.1)), I.laid (t' := s.toks) (fun _ _ => PyProof.Rows.sortedAll_old) (Nat.le_succ _) ⟨hlen, out, ep, vals_of_each _ _ hE, he'⟩, rfl, q _ (I.hok.fresh (Nat.le_succ _))⟩
end
end Sd
/-! rules within a comprehension: the written part by its name -/
namespace Sd
open PySem L2
theorem ixK {X : Cx} {K : PySem.W.Frag} {r : PySem.W.Frag → R2} (q : IxR X (r X.K)) (h : X.K = K) : IxR X (r K) := h ▸ q
theorem opK {X : Cx} {K : PySem.W.Frag} {f : Value → Value → Sem Value} {r : PySem.W.Frag → R2} (q : OpR X f (r X.K)) (h : X.K = K) : OpR X f (r K) := h ▸ q
theorem slK {X : Cx} {K : PySem.W.Frag} {r : PySem.W.Frag → V → Option Int → Option Int → Hp → VK → Prop} (q : SlR X (r X.K)) (h : X.K = K) : SlR X (r K) := h ▸ q
theorem callK {X : Cx} {K : PySem.W.Frag} {f : Value} {r : PySem.W.Frag → List V → Hp → VK → Prop} (q : CallR X f (r X.K)) (h : X.K = K) : CallR X f (r K) := h ▸ q
def rListOf (K : PySem.W.Frag) : List V → Hp → VK → Prop := fun xs H Q => ∃ p ys, xs = [.ref p] ∧ (SqL K H p ys ∨ SqT K H p ys) ∧ ∀ l, H l = none → Q (.ref l) (upd H l (.lst ys))
theorem call_list_ofK {X : Cx} {K : PySem.W.Frag} (h : X.K = K) : CallR X (.type "list") (rListOf K) := callK (r := rListOf) call_list_of h
end Sd

/-! the draws of a script: _law_cell, _law_dice, _law_off -/
namespace Sd
open PySem L2
theorem b01 (c : Bool) : -(2 ^ 64) < (if c = true then (1 : Int) else 0) ∧ (if c = true then (1 : Int) else 0) < 2 ^ 64 := by
  cases c with
  | true =>
    rw [if_pos rfl]
    decide
  | false =>
    rw [if_neg Bool.false_ne_true]
    decide
def spCell (K : PySem.W.Frag) : Sp := fun vs H Q _ => ∃ (a : Addr) (ns : List Int) (k : Int), vs = [.ref a, .int k] ∧ 0 ≤ k ∧ SqL K H a (ns.map V.int) ∧ ∀ v : Int, Q (.int v) H
/-- what the draws go on with stands at d: four things, the second one the script's list -/
def Dice (H : Hp) (d a : Addr) : Prop := ∃ n k g : Int, H d = some (.lst [.int n, .ref a, .int k, .int g])
theorem Dice.but {H H' : Hp} {d a e : Addr} (h : Dice H d a) (b : But e H H') (n : d ≠ e) : Dice H' d a := by
  obtain ⟨x, k, g, h⟩ := h
  exact ⟨x, k, g, b _ _ n h⟩
theorem Dice.same {H H' : Hp} {d a : Addr} (h : Dice H d a) (s : Same H H') : Dice H' d a := by
  obtain ⟨x, k, g, h⟩ := h
  exact ⟨x, k, g, s _ _ h⟩
theorem Dice.some {H : Hp} {d a : Addr} (h : Dice H d a) : ∃ u, H d = some u := by
  obtain ⟨x, k, g, h⟩ := h
  exact ⟨_, h⟩
theorem Dice.ne {H : Hp} {d a p : Addr} (h : Dice H d a) (n : H p = none) : d ≠ p := by
  obtain ⟨x, k, g, h⟩ := h
  exact ne_of_none h n
/-- the script stands, whatever the draws' list becomes -/
theorem Dice.seq {K : PySem.W.Frag} {H H' : Hp} {d a : Addr} {ns : List Int} (h : Dice H d a) (b : But d H H') (s : SqL K H a (ns.map V.int)) : SqL K H' a (ns.map V.int) := by
  obtain ⟨n, k, g, h⟩ := h
  refine Sd.SqL.keep s b h (fun e => ?_)
  cases ns with
  | nil => cases e
  | cons x r =>
    cases r with
    | nil => cases e
    | cons y r =>
      have e2 := (List.cons.inj (List.cons.inj e).2).1
      cases e2
theorem Dice.ne_ints {H : Hp} {d a l : Addr} {xs : List Int} (h : Dice H d a) (hl : H l = Option.some (.lst (xs.map V.int))) : l ≠ d := fun z => by
  obtain ⟨n, k, g, h⟩ := h
  rw [z, h] at hl
  have e := (HO.lst.inj (Option.some.inj hl))
  cases xs with
  | nil => cases e
  | cons x r =>
    cases r with
    | nil => cases e
    | cons y r => cases (List.cons.inj (List.cons.inj e).2).1
def spDice (K : PySem.W.Frag) : Sp := fun vs H Q _ => ∃ (a : Addr) (ns : List Int) (k : Int), vs = [.ref a, .int k] ∧ 0 ≤ k ∧ SqL K H a (ns.map V.int) ∧
  ∀ (p : Addr) (H' : Hp), H p = none → Same H H' → But p H H' → Dice H' p a → (∀ b, b ≠ p → H' b = H b) → Q (.ref p) H'
def spOff (K : PySem.W.Frag) : Sp := fun vs H Q _ => ∃ (d a : Addr) (ns : List Int) (m : Int), vs = [.ref d, .int m] ∧ Dice H d a ∧ SqL K H a (ns.map V.int) ∧ 0 < m ∧ m < 1073741824 ∧
  ∀ (r : Int) (H' : Hp), 0 ≤ r → r < m → Dice H' d a → (∀ b, b ≠ d → H' b = H b) → Q (.int r) H'
end Sd

/-! deeds, answers, the five things: plain words -/
namespace Sd
inductive Deed
  | one | count | set (n : Int) | look | add (n : Int) | sum | rais (n : Int) | top | give (n : Int) | take
  deriving DecidableEq
namespace Deed
/-- the number is one that a deed may have -/
def ok : Deed → Prop
  | set n => 0 ≤ n ∧ n ≤ 999 | add n => 0 ≤ n ∧ n ≤ 999 | rais n => 0 ≤ n ∧ n ≤ 999 | give n => 0 ≤ n ∧ n ≤ 999
  | _ => True
def most : Deed → Int → Int
  | one, _ => 1 | count, m => m | give _, m => m + 1 | take, m => 2 * m
  | look, m => m * (m + 1) | sum, m => m * (m + 1) | top, m => m * (m + 1)
  | set _, m => m * (m + 1) + 1 | add _, m => m * (m + 1) + 1 | rais _, m => m * (m + 1) + 1
def thing : Deed → Nat
  | one | count => 0
  | set _ | look => 1
  | add _ | sum => 2
  | rais _ | top => 3
  | give _ | take => 4
/-- it changes its thing by a put -/
def puts : Deed → Bool
  | one | set _ | add _ | rais _ | give _ => true
  | _ => false
/-- it tells of a thing without takes -/
def tells : Deed → Bool
  | count | look | sum | top => true
  | _ => false
end Deed
inductive Ans
  | non | int (n : Int) | view (cs : List Int)
  deriving DecidableEq
/-- the greatest of the list, 0 at the least -/
def top0 (l : List Int) : Int := l.foldl (fun a b => if b > a then b else a) 0
/-- the program's five things -/
structure St5 where
  ones : Int
  cells : List Int
  added : Int
  top : Int
  line : List Int
  deriving DecidableEq
def St5.first (m : Nat) : St5 := ⟨0, List.replicate m 0, 0, 0, []⟩
def St5.ans (s : St5) : Deed → Ans
  | .count => .int s.ones
  | .look => .view s.cells
  | .sum => .int s.added
  | .top => .int s.top
  | .take => match s.line with
    | [] => .non
    | g :: _ => .int g
  | _ => .non
def St5.behind (s : St5) (h : Nat) : Deed → St5
  | .one => { s with ones := s.ones + 1 }
  | .set n => { s with cells := s.cells.set h n }
  | .add n => { s with added := s.added + n }
  | .rais n => { s with top := if n > s.top then n else s.top }
  | .give n => { s with line := s.line ++ [n] }
  | .take => { s with line := s.line.drop 1 }
  | _ => s
/-- sizes that the rules want -/
structure St5.Ok (s : St5) (m : Nat) : Prop where
  cells : s.cells.length = m
  line : s.line.length ≤ 10000
end Sd

/-! the law's own five things, plain words -/
namespace Sd
structure L5 where
  ones : Int
  cells : List Int
  adds : List Int
  tops : List Int
  line : List Int
def L5.first (m : Nat) : L5 := ⟨0, List.replicate m 0, List.replicate m 0, List.replicate m 0, []⟩
def L5.ans (s : L5) : Deed → Ans
  | .count => .int s.ones
  | .look => .view s.cells
  | .sum => .int s.adds.sum
  | .top => .int (top0 s.tops)
  | .take => match s.line with
    | [] => .non
    | g :: _ => .int g
  | _ => .non
def L5.behind (s : L5) (h : Nat) : Deed → L5
  | .one => { s with ones := s.ones + 1 }
  | .set n => { s with cells := s.cells.set h n }
  | .add n => { s with adds := s.adds.set h (s.adds.getD h 0 + n) }
  | .rais n => { s with tops := s.tops.set h (if n > s.tops.getD h 0 then n else s.tops.getD h 0) }
  | .give n => { s with line := s.line ++ [n] }
  | .take => { s with line := s.line.drop 1 }
  | _ => s
structure L5.Ok (s : L5) (m : Nat) : Prop where
  cells : s.cells.length = m
  adds : s.adds.length = m
  tops : s.tops.length = m
  tops0 : ∀ x ∈ s.tops, 0 ≤ x
  line : s.line.length ≤ 10000
/-- the two ways to hold them -/
structure Sim (s : St5) (l : L5) : Prop where
  ones : s.ones = l.ones
  cells : s.cells = l.cells
  added : s.added = l.adds.sum
  top : s.top = top0 l.tops
  line : s.line = l.line
theorem foldl_max (l : List Int) : ∀ a : Int, (∀ x ∈ l, x ≤ l.foldl (fun a b => if b > a then b else a) a) ∧ a ≤ l.foldl (fun a b => if b > a then b else a) a ∧ (l.foldl (fun a b => if b > a then b else a) a = a ∨ l.foldl (fun a b => if b > a then b else a) a ∈ l) := by
  induction l with
  | nil => exact fun a => ⟨fun x h => (List.not_mem_nil h).elim, Int.le_refl _, Or.inl rfl⟩
  | cons y l ih =>
    intro a
    obtain ⟨h1, h2, h3⟩ := ih (if y > a then y else a)
    rw [List.foldl_cons]
    refine ⟨fun x hx => ?_, ?_, ?_⟩
    · rcases List.mem_cons.mp hx with rfl | hx
      · refine Int.le_trans ?_ h2
        split <;> omega
      · exact h1 x hx
    · refine Int.le_trans ?_ h2
      split <;> omega
    · rcases h3 with h3 | h3
      · rw [h3]
        split
        · exact .inr List.mem_cons_self
        · exact .inl rfl
      · exact .inr (List.mem_cons_of_mem _ h3)
theorem top0_of {l : List Int} (h0 : ∀ x ∈ l, 0 ≤ x) {m : Int} (hm : m ∈ l) (h : ∀ y, y ∈ l → y ≤ m) : m = top0 l := by
  obtain ⟨h1, h2, h3⟩ := foldl_max l 0
  have e1 := h1 m hm
  rcases h3 with h3 | h3
  · have := h0 m hm
    show m = List.foldl _ 0 l
    omega
  · have := h _ h3
    show m = List.foldl _ 0 l
    omega
theorem sum_set (l : List Int) : ∀ (h : Nat) (n : Int), h < l.length → (l.set h (l.getD h 0 + n)).sum = l.sum + n := by
  induction l with
  | nil => intro h n hh; exact absurd hh (Nat.not_lt_zero _)
  | cons x l ih =>
    intro h n hh
    cases h with
    | zero =>
      rw [List.set_cons_zero, List.sum_cons, List.sum_cons, List.getD_cons_zero]
      omega
    | succ h =>
      rw [List.set_cons_succ, List.sum_cons, List.sum_cons, List.getD_cons_succ, ih h n (by rw [List.length_cons] at hh; omega)]
      omega
theorem le_top0 {l : List Int} {x : Int} (h : x ∈ l) : x ≤ top0 l := (foldl_max l 0).1 x h
theorem top0_nn (l : List Int) : 0 ≤ top0 l := (foldl_max l 0).2.1
theorem top0_le {l : List Int} {m : Int} (h0 : 0 ≤ m) (h : ∀ x ∈ l, x ≤ m) : top0 l ≤ m := by
  rcases (foldl_max l 0).2.2 with e | e
  · show List.foldl _ 0 l ≤ m
    omega
  · exact h _ e
theorem top0_setz {l : List Int} (h : Nat) (n z : Int) (hn : 0 ≤ n) (hh : h < l.length) (z1 : n ≤ z) (z2 : l.getD h 0 ≤ z) (z3 : z = n ∨ z = l.getD h 0) :
    top0 (l.set h z) = if n > top0 l then n else top0 l := by
  have hg : l.getD h 0 ∈ l := by
    rw [List.getD_eq_getElem?_getD, List.getElem?_eq_getElem hh]
    exact List.getElem_mem hh
  have hg1 := le_top0 hg
  have hz : z ∈ l.set h z := List.mem_set hh _
  have hz1 := le_top0 hz
  have nn := top0_nn l
  apply Int.le_antisymm
  · refine top0_le ?_ fun x hx => ?_
    · split <;> omega
    · rcases List.mem_or_eq_of_mem_set hx with e | e
      · have := le_top0 e
        split <;> omega
      · rw [e]
        split <;> omega
  · split
    · omega
    · rcases (foldl_max l 0).2.2 with e | e
      · have e' : top0 l = 0 := e
        have := top0_nn (l.set h z)
        omega
      · have e' : top0 l ∈ l := e
        obtain ⟨j, hj, ej⟩ := List.mem_iff_getElem.mp e'
        by_cases c : j = h
        · subst c
          have e2 : l.getD j 0 = top0 l := by rw [List.getD_eq_getElem?_getD, List.getElem?_eq_getElem hj]; exact ej
          omega
        · have hm : l[j] ∈ l.set h z := by
            refine List.mem_iff_getElem.mpr ⟨j, by rw [List.length_set]; exact hj, ?_⟩
            rw [List.getElem_set_ne (Ne.symm c)]
          have := le_top0 hm
          omega
theorem top0_set {l : List Int} (h : Nat) (n : Int) (hn : 0 ≤ n) (hh : h < l.length) :
    top0 (l.set h (if n > l.getD h 0 then n else l.getD h 0)) = if n > top0 l then n else top0 l := by
  refine top0_setz h n _ hn hh ?_ ?_ ?_
  · split <;> omega
  · split <;> omega
  · split
    · exact .inl rfl
    · exact .inr rfl
theorem Sim.ans {s : St5} {l : L5} (h : Sim s l) (d : Deed) : s.ans d = l.ans d := by
  cases d with
  | count => exact congrArg Ans.int h.ones
  | look => exact congrArg Ans.view h.cells
  | sum => exact congrArg Ans.int h.added
  | top => exact congrArg Ans.int h.top
  | take =>
    have e := h.line
    unfold St5.ans L5.ans
    rw [e]
  | _ => rfl
theorem Sim.behind {s : St5} {l : L5} {m h : Nat} {d : Deed} (q : Sim s l) (o : l.Ok m) (hh : h < m) (hd : d.ok) : Sim (s.behind h d) (l.behind h d) := by
  obtain ⟨e1, e2, e3, e4, e5⟩ := q
  cases d with
  | one => exact ⟨by show s.ones + 1 = l.ones + 1; rw [e1], e2, e3, e4, e5⟩
  | set n => exact ⟨e1, by show s.cells.set h n = l.cells.set h n; rw [e2], e3, e4, e5⟩
  | add n => exact ⟨e1, e2, by show s.added + n = _; rw [e3]; exact (sum_set l.adds h n (by rw [o.adds]; exact hh)).symm, e4, e5⟩
  | rais n => exact ⟨e1, e2, e3, by show (if n > s.top then n else s.top) = _; rw [e4]; exact (top0_set h n hd.1 (by rw [o.tops]; exact hh)).symm, e5⟩
  | give n => exact ⟨e1, e2, e3, e4, by show s.line ++ [n] = l.line ++ [n]; rw [e5]⟩
  | take => exact ⟨e1, e2, e3, e4, by show s.line.drop 1 = l.line.drop 1; rw [e5]⟩
  | _ => exact ⟨e1, e2, e3, e4, e5⟩
theorem L5.Ok.behind {l : L5} {m h : Nat} {d : Deed} (o : l.Ok m) (hd : d.ok) (hl : l.line.length < 10000) : (l.behind h d).Ok m := by
  obtain ⟨o1, o2, o3, o4, o5⟩ := o
  cases d with
  | set n => exact ⟨by show (l.cells.set h n).length = m; rw [List.length_set, o1], o2, o3, o4, o5⟩
  | add n => exact ⟨o1, by show (l.adds.set h _).length = m; rw [List.length_set, o2], o3, o4, o5⟩
  | rais n =>
    refine ⟨o1, o2, by show (l.tops.set h _).length = m; rw [List.length_set, o3], fun x hx => ?_, o5⟩
    rcases List.mem_or_eq_of_mem_set hx with e | e
    · exact o4 x e
    · rw [e]
      have := hd.1
      split <;> omega
  | give n => exact ⟨o1, o2, o3, o4, by show (l.line ++ [n]).length ≤ 10000; rw [List.length_append]; exact hl⟩
  | take => exact ⟨o1, o2, o3, o4, by show (l.line.drop 1).length ≤ 10000; rw [List.length_drop]; omega⟩
  | _ => exact ⟨o1, o2, o3, o4, o5⟩
theorem L5.len_behind (l : L5) (h : Nat) (d : Deed) : (l.behind h d).line.length ≤ l.line.length + 1 := by
  cases d with
  | give n => show (l.line ++ [n]).length ≤ _; rw [List.length_append]; exact Nat.le_refl _
  | take => show (l.line.drop 1).length ≤ _; rw [List.length_drop]; omega
  | _ => exact Nat.le_succ _
theorem sum_zeros (m : Nat) : (List.replicate m (0 : Int)).sum = 0 := by
  induction m with
  | zero => rfl
  | succ m ih => rw [List.replicate_succ, List.sum_cons, ih]; rfl
theorem top0_zeros (m : Nat) : top0 (List.replicate m (0 : Int)) = 0 :=
  Int.le_antisymm (top0_le (Int.le_refl 0) fun x hx => by rw [List.eq_of_mem_replicate hx]; exact Int.le_refl 0) (top0_nn _)
theorem Sim.first (m : Nat) : Sim (St5.first m) (L5.first m) := ⟨rfl, rfl, (sum_zeros m).symm, (top0_zeros m).symm, rfl⟩
theorem L5.Ok.first (m : Nat) : (L5.first m).Ok m := ⟨List.length_replicate, List.length_replicate, List.length_replicate, fun x hx => by rw [List.eq_of_mem_replicate hx]; exact Int.le_refl 0, Nat.zero_le _⟩
end Sd

/-! a mirror of the hall: plain functions -/
namespace Sd
/-- what parted tells -/
def dec (n : Int) : List Int := if h : 1 < n then n % 1000000 :: dec (n / 1000000) else []
termination_by n.toNat
decreasing_by omega
inductive Mark
  | non | mom (n : Int) | gift (h : Nat) (k : Nat)
  deriving DecidableEq
structure Out where
  num : Option Int
  ans : Ans
  mark : Mark
structure Touch where
  hand : Nat
  put : Bool
  place : Nat
  num : Int
  deriving DecidableEq
structure Rec where
  hand : Nat
  deed : Deed
  beg : Nat
  fin : Nat
  ans : Ans
  deriving DecidableEq
structure HandM where
  ended : Nat
  ones : Int
  took : List Nat
  beg : Nat
  out : Option Out
  reading : List Int
  readings : List (List Int)
  steps : Nat
def HandM.new (many : Nat) : HandM := ⟨0, 0, List.replicate many 0, 0, none, [], [], 0⟩
/-- a picture's row -/
def row0 (n : Int) : List Int := if dec n = [] then [0, 0] else dec n
def last (rs : List (List Int)) : List Int := rs.getLastD []
def borrowed (first now : List Int) : List Nat → Option (List Int)
  | [] => none
  | h :: hs => if (row0 (now.getD h 0)).getD 0 0 - (row0 (first.getD h 0)).getD 0 0 ≥ 2 then some ((row0 (now.getD h 0)).drop 2) else borrowed first now hs
def view (many : Nat) (rs : List (List Int)) : Option (List Int) :=
  if rs.length < 2 then none
  else if last rs = last rs.dropLast then some (((last rs).map fun n => (row0 n).getD 0 0).sum :: (last rs).map fun n => (row0 n).getD 1 0)
  else borrowed (rs.headD []) (last rs) (List.range many)
def behindCell (c : Int) : Deed → Int
  | .add n => c + n
  | .rais n => if n > c then n else c
  | .set n => n
  | _ => c
/-- rows of numbers as one -/
def enc : List Int → Int
  | [] => 1
  | x :: xs => x + 1000000 * enc xs
def picOut (many hand : Nat) (d : Deed) (rs : List (List Int)) : Option Out :=
  (view many rs).map fun v =>
    match d with
    | .look => ⟨none, .view (v.drop 1), .mom (v.headD 0)⟩
    | .sum => ⟨none, .int (v.drop 1).sum, .mom (v.headD 0)⟩
    | .top => ⟨none, .int (top0 (v.drop 1)), .mom (v.headD 0)⟩
    | d => ⟨some (enc (((row0 ((last rs).getD hand 0)).getD 0 0 + 1) :: behindCell ((row0 ((last rs).getD hand 0)).getD 1 0) d :: v)), .non, .non⟩
/-- the first gift that is left of each hand that has one: stamp, hand, gift -/
def left (took : List Nat) (rows : List (List Int)) : List (Int × Nat × Int) :=
  (List.range rows.length).filterMap fun h =>
    if 2 * took.getD h 0 < (rows.getD h []).length then some ((rows.getD h []).getD (2 * took.getD h 0 + 1) 0, h, (rows.getD h []).getD (2 * took.getD h 0) 0) else none
/-- the least of them by stamp, then by hand -/
def least : List (Int × Nat × Int) → Option (Int × Nat × Int)
  | [] => none
  | x :: xs => match least xs with
    | none => some x
    | some y => if y.1 < x.1 then some y else some x
def stamp (rows : List (List Int)) : Int := 1 + top0 ((rows.filter fun r => r ≠ []).map fun r => r.getLastD 0)
def lineOut (hand : Nat) (d : Deed) (took : List Nat) (rs : List (List Int)) : Option Out :=
  if rs = [] then none
  else
    let rows := (last rs).map dec
    match d with
    | .give n => some ⟨some (enc (rows.getD hand [] ++ [n, stamp rows])), .non, .gift hand ((rows.getD hand []).length / 2)⟩
    | _ => match least (left took rows) with
      | none => some ⟨none, .non, .non⟩
      | some l => if rs.length < 2 then none else some ⟨none, .int l.2.2, .gift l.2.1 (took.getD l.2.1 0)⟩
def cntOut (d : Deed) (ones : Int) (rs : List (List Int)) : Option Out :=
  match d with
  | .one => some ⟨some (ones + 1), .non, .non⟩
  | _ => if rs = [] then none else some ⟨none, .int (last rs).sum, .mom (last rs).sum⟩
def outOf (many hand : Nat) (d : Deed) (h : HandM) : Option Out :=
  if d.thing = 0 then cntOut d h.ones h.readings else if d.thing = 4 then lineOut hand d h.took h.readings else picOut many hand d h.readings
/-- a deed's end -/
def HandM.done (hand : Nat) (d : Deed) (now : Nat) (o : Out) (h : HandM) : HandM × Rec × Mark :=
  ({ h with
      ones := if d = .one then h.ones + 1 else h.ones
      took := match d, o.mark with
        | .take, .gift g _ => h.took.set g (h.took.getD g 0 + 1)
        | _, _ => h.took
      ended := h.ended + 1
      steps := 0 }, ⟨hand, d, h.beg, now, o.ans⟩, o.mark)
/-- a deed's first step begins it -/
def HandM.start (many hand : Nat) (d : Deed) (now : Nat) (h : HandM) : HandM :=
  if h.steps = 0 then { h with beg := now, readings := [], out := outOf many hand d { h with readings := [] } } else h
def HandM.keep (many hand : Nat) (d : Deed) (n : Int) (h : HandM) : HandM :=
  let r := h.reading ++ [n]
  if r.length = many then { h with readings := h.readings ++ [r], reading := [], out := outOf many hand d { h with readings := h.readings ++ [r] } } else { h with reading := r }
structure Step where
  hand : HandM
  boxes : List Int
  touch : Touch
  ended : Option (Rec × Mark)
def HandM.step (many hand : Nat) (d : Deed) (boxes : List Int) (now : Nat) (h : HandM) : Step :=
  let h1 := { h.start many hand d now with steps := h.steps + 1 }
  match h1.out with
  | some o =>
    let e := h1.done hand d now o
    ⟨e.1, boxes.set (d.thing * many + hand) (o.num.getD 0), ⟨hand, true, d.thing * many + hand, o.num.getD 0⟩, some e.2⟩
  | none =>
    let place := d.thing * many + h1.reading.length
    let n := boxes.getD place 0
    let h2 := h1.keep many hand d n
    match h2.out with
    | none => ⟨h2, boxes, ⟨hand, false, place, n⟩, none⟩
    | some o =>
      if o.num.isSome then ⟨h2, boxes, ⟨hand, false, place, n⟩, none⟩
      else let e := h2.done hand d now o; ⟨e.1, boxes, ⟨hand, false, place, n⟩, some e.2⟩
structure HallM where
  plans : List (List Deed)
  boxes : List Int
  hands : List HandM
  recs : List Rec
  marks : List Mark
  touches : List Touch
def HallM.many (s : HallM) : Nat := s.plans.length
def HallM.new (plans : List (List Deed)) : HallM := ⟨plans, List.replicate (5 * plans.length) 0, List.replicate plans.length (HandM.new plans.length), [], [], []⟩
def HallM.plan (s : HallM) (i : Nat) : List Deed := s.plans.getD i []
def HallM.hand (s : HallM) (i : Nat) : HandM := s.hands.getD i (HandM.new 0)
/-- a step of hand i: none where its plan is at its end -/
def HallM.stepped (s : HallM) (i : Nat) : Option HallM :=
  match (s.plan i)[(s.hand i).ended]? with
  | none => none
  | some d =>
    let t := (s.hand i).step s.many i d s.boxes s.touches.length
    some { s with
      boxes := t.boxes
      hands := s.hands.set i t.hand
      touches := s.touches ++ [t.touch]
      recs := s.recs ++ (t.ended.map (·.1)).toList
      marks := s.marks ++ (t.ended.map (·.2)).toList }
def HallM.step (s : HallM) (i : Nat) : HallM := (s.stepped i).getD s
def HallM.weave (s : HallM) (row : List Nat) : HallM := row.foldl HallM.step s
end Sd

/-! rows of numbers as one: there and back -/
namespace Sd
def In6 (l : List Int) : Prop := ∀ x ∈ l, 0 ≤ x ∧ x < 1000000
theorem In6.nil : In6 [] := fun x h => by cases h
theorem In6.tail {x : Int} {l : List Int} (h : In6 (x :: l)) : In6 l := fun y hy => h y (List.mem_cons_of_mem _ hy)
theorem In6.drop {l : List Int} (h : In6 l) (k : Nat) : In6 (l.drop k) := fun y hy => h y (List.mem_of_mem_drop hy)
theorem In6.get {l : List Int} (h : In6 l) {k : Nat} {v : Int} (e : l[k]? = some v) : 0 ≤ v ∧ v < 1000000 := h v (List.mem_of_getElem? e)
theorem In6.append {l r : List Int} (h : In6 l) (k : In6 r) : In6 (l ++ r) := fun x hx => (List.mem_append.mp hx).elim (h x) (k x)
theorem In6.cons {x : Int} {l : List Int} (h0 : 0 ≤ x) (h1 : x < 1000000) (h : In6 l) : In6 (x :: l) := fun y hy => by
  rcases List.mem_cons.mp hy with rfl | hy
  · exact ⟨h0, h1⟩
  · exact h y hy
theorem enc_pos : ∀ {l : List Int}, In6 l → 1 ≤ enc l
  | [], _ => by decide
  | x :: l, h => by
    have h1 := enc_pos h.tail
    have h2 := h x List.mem_cons_self
    show 1 ≤ x + 1000000 * enc l
    omega
theorem enc_cons (x : Int) (l : List Int) : enc (x :: l) = x + 1000000 * enc l := rfl
theorem enc_big {x : Int} {l : List Int} (h : In6 (x :: l)) : 1 < enc (x :: l) := by
  have h1 := enc_pos h.tail
  have h2 := h x List.mem_cons_self
  rw [enc_cons]
  omega
theorem enc_mod {x : Int} {l : List Int} (h : In6 (x :: l)) : enc (x :: l) % 1000000 = x := by
  have h2 := h x List.mem_cons_self
  rw [enc_cons]
  omega
theorem enc_div {x : Int} {l : List Int} (h : In6 (x :: l)) : enc (x :: l) / 1000000 = enc l := by
  have h2 := h x List.mem_cons_self
  rw [enc_cons]
  omega
theorem drop_at {l : List Int} {k : Nat} {v : Int} (e : l[k]? = some v) : l.drop k = v :: l.drop (k + 1) := by
  obtain ⟨h, q⟩ := List.getElem?_eq_some_iff.mp e
  rw [List.drop_eq_getElem_cons h, q]
theorem enc_drop {l : List Int} {k : Nat} {v : Int} (e : l[k]? = some v) : enc (l.drop k) = v + 1000000 * enc (l.drop (k + 1)) := by
  rw [drop_at e]
  rfl
theorem take_at {l : List Int} {k : Nat} {v : Int} (e : l[k]? = some v) : l.take (k + 1) = l.take k ++ [v] := by
  obtain ⟨h, q⟩ := List.getElem?_eq_some_iff.mp e
  rw [List.take_succ_eq_append_getElem h, q]
theorem dec_small {n : Int} (h : ¬ 1 < n) : dec n = [] := by
  unfold dec
  exact dif_neg h
theorem dec_enc : ∀ {l : List Int}, In6 l → dec (enc l) = l
  | [], _ => dec_small (by decide)
  | x :: l, h => by
    unfold dec
    rw [dif_pos (enc_big h), enc_mod h, enc_div h, dec_enc h.tail]
/-- n stands for the row: 0 for the empty one, too -/
def Row (n : Int) (row : List Int) : Prop := In6 row ∧ (n = enc row ∨ (n = 0 ∧ row = []))
theorem Row.dec {n : Int} {row : List Int} (h : Row n row) : dec n = row := by
  rcases h with ⟨h6, rfl | ⟨rfl, rfl⟩⟩
  · exact dec_enc h6
  · exact dec_small (by decide)
theorem Row.zero : Row 0 [] := ⟨In6.nil, .inr ⟨rfl, rfl⟩⟩
theorem Row.enc {row : List Int} (h : In6 row) : Row (enc row) row := ⟨h, .inl rfl⟩
theorem Row.inj {n m : Int} {row : List Int} (h : Row n row) (k : Row m row) (e : row ≠ []) : n = m := by
  rcases h with ⟨_, rfl | ⟨_, e1⟩⟩
  · rcases k with ⟨_, rfl | ⟨_, e2⟩⟩
    · rfl
    · exact absurd e2 e
  · exact absurd e1 e
end Sd

/-! deeds, and what tells of them -/
namespace Sd
open PySem L2
namespace Deed
def word : Deed → Str
  | one => "one" | count => "count" | set _ => "set" | look => "look" | add _ => "add" | sum => "sum" | rais _ => "raise" | top => "top" | give _ => "give" | take => "take"
def vals : Deed → List V
  | set n => [.str "set", .int n] | add n => [.str "add", .int n] | rais n => [.str "raise", .int n] | give n => [.str "give", .int n]
  | one => [.str "one"] | count => [.str "count"] | look => [.str "look"] | sum => [.str "sum"] | top => [.str "top"] | take => [.str "take"]
theorem at0 : ∀ d : Deed, atI d.vals (0 : Int) = some (.str d.word)
  | set _ | add _ | rais _ | give _ | one | count | look | sum | top | take => atI_nat (j := 0) rfl
end Deed
def words10 : List Str := ["one", "count", "set", "look", "add", "sum", "raise", "top", "give", "take"]
theorem word_of {w : Str} (h : w ∈ words10) : ∃ d : Deed, d.word = w := by
  simp only [words10, List.mem_cons, List.not_mem_nil, or_false] at h
  rcases h with rfl | rfl | rfl | rfl | rfl | rfl | rfl | rfl | rfl | rfl
  · exact ⟨.one, rfl⟩
  · exact ⟨.count, rfl⟩
  · exact ⟨.set 0, rfl⟩
  · exact ⟨.look, rfl⟩
  · exact ⟨.add 0, rfl⟩
  · exact ⟨.sum, rfl⟩
  · exact ⟨.rais 0, rfl⟩
  · exact ⟨.top, rfl⟩
  · exact ⟨.give 0, rfl⟩
  · exact ⟨.take, rfl⟩
theorem strs_got {ws : List Str} {j : Nat} {y : V} (h : (ws.map V.str)[j]? = some y) : ∃ v, ws[j]? = some v ∧ y = .str v := by
  rw [List.getElem?_map] at h
  cases e : ws[j]? with
  | none =>
    rw [e] at h
    cases h
  | some v =>
    rw [e] at h
    exact ⟨v, rfl, (Option.some.inj h).symm⟩
def spLDeed (K : PySem.W.Frag) : Sp := fun vs H Q _ => ∃ (d a : Addr) (ns : List Int) (w : Str), vs = [.ref d, .str w] ∧ w ∈ words10 ∧ Dice H d a ∧ SqL K H a (ns.map V.int) ∧
  ∀ (p : Addr) (H' : Hp) (dd : Deed), dd.word = w → dd.ok → H p = none → H' p = some (.tup dd.vals) → Dice H' d a → But d H H' → Q (.ref p) H'
theorem two_at {n m : Int} {r : Int} (h0 : 0 ≤ r) (h1 : r < 2) : ∃ z, atI [V.int n, V.int m] r = some (V.int z) ∧ (z = n ∨ z = m) := by
  have h : r = 0 ∨ r = 1 := by omega
  rcases h with rfl | rfl
  · exact ⟨n, atI_nat (j := 0) rfl, .inl rfl⟩
  · exact ⟨m, atI_nat (j := 1) rfl, .inr rfl⟩
end Sd

/-! what the five things hold, and what a deed done at once answers -/
namespace Sd
open PySem L2
def Ans.At (H : Hp) (v : V) : Ans → Prop
  | .non => v = .non
  | .int n => v = .int n
  | .view cs => ∃ p, v = .ref p ∧ H p = some (.tup (cs.map V.int))
theorem Ans.At.same {H H' : Hp} {v : V} {a : Ans} (h : a.At H v) (s : Same H H') : a.At H' v := by
  cases a with
  | non => exact h
  | int n => exact h
  | view cs =>
    obtain ⟨p, e, hp⟩ := h
    exact ⟨p, e, s _ _ hp⟩
def St5.At (H : Hp) (v : V) (s : St5) : Prop := ∃ t pc pl, v = .ref t ∧ H t = some (.tup [.int s.ones, .ref pc, .int s.added, .int s.top, .ref pl]) ∧ H pc = some (.tup (s.cells.map V.int)) ∧ H pl = some (.tup (s.line.map V.int))
theorem St5.At.same {H H' : Hp} {v : V} {s : St5} (h : s.At H v) (e : Same H H') : s.At H' v := by
  obtain ⟨t, pc, pl, rfl, h1, h2, h3⟩ := h
  exact ⟨t, pc, pl, rfl, e _ _ h1, e _ _ h2, e _ _ h3⟩
def DeedAt (H : Hp) (p : Addr) (d : Deed) : Prop := H p = some (.tup d.vals)
def spFirst : Sp := fun vs H Q _ => ∃ m : Nat, vs = [.int m] ∧ 1 ≤ m ∧ m ≤ 100 ∧ ∀ v H', Same H H' → (St5.first m).At H' v → Q v H'
def spAnsIn : Sp := fun vs H Q _ => ∃ (v : V) (p : Addr) (s : St5) (d : Deed), vs = [v, .ref p] ∧ s.At H v ∧ DeedAt H p d ∧ s.line.length ≤ 10000 ∧ ∀ u, (s.ans d).At H u → Q u H
def spBehind : Sp := fun vs H Q _ => ∃ (v : V) (p : Addr) (s : St5) (h m : Nat) (d : Deed), vs = [v, .int h, .ref p] ∧ s.At H v ∧ DeedAt H p d ∧ s.Ok m ∧ m ≤ 100 ∧ h < m ∧ ∀ u H', Same H H' → (s.behind h d).At H' u → Q u H'
end Sd

/-! the law's own five things -/
namespace Sd
open PySem L2
/-- but for the objects of F, what stood stands -/
def Off (F : List Addr) (H H' : Hp) : Prop := ∀ b o, b ∉ F → H b = some o → H' b = some o
theorem Off.refl (F : List Addr) (H : Hp) : Off F H H := fun _ _ _ h => h
theorem Off.trans {F : List Addr} {H H1 H2 : Hp} (a : Off F H H1) (b : Off F H1 H2) : Off F H H2 := fun c o n h => b c o n (a c o n h)
theorem Off.of_same {F : List Addr} {H H' : Hp} (s : Same H H') : Off F H H' := fun b o _ h => s b o h
theorem Off.upd {F : List Addr} {H : Hp} {p : Addr} {o : HO} (h : p ∈ F) : Off F H (upd H p o) := fun b u n e => by
  rw [upd_ne (fun z => n (by rw [z]; exact h))]
  exact e
theorem Off.at_ {F : List Addr} {H H' : Hp} (s : Off F H H') {b : Addr} {o : HO} (n : b ∉ F) (h : H b = some o) : H' b = some o := s b o n h
theorem Off.same {F : List Addr} {H H' : Hp} (s : Off F H H') (h : ∀ x ∈ F, H x = none) : Same H H' := fun b o e => s b o (fun m => by rw [h b m] at e; cases e) e
theorem free_ne {F : List Addr} {H : Hp} {x : Addr} {o : HO} (h : ∀ y ∈ F, H y = none) (hx : H x = some o) : x ∉ F := fun m => by
  rw [h x m] at hx
  cases hx
/-- the dict and its four lists: F = [d, set, add, raise, line] -/
structure L5.At (H : Hp) (d a1 a2 a3 a4 : Addr) (s : L5) : Prop where
  d : H d = some (.dK [(Sum.inr "ones", .int s.ones), (Sum.inr "set", .ref a1), (Sum.inr "add", .ref a2), (Sum.inr "raise", .ref a3), (Sum.inr "line", .ref a4)])
  c1 : H a1 = some (.lst (s.cells.map V.int))
  c2 : H a2 = some (.lst (s.adds.map V.int))
  c3 : H a3 = some (.lst (s.tops.map V.int))
  c4 : H a4 = some (.lst (s.line.map V.int))
  n : a1 ≠ a2 ∧ a1 ≠ a3 ∧ a1 ≠ a4 ∧ a2 ≠ a3 ∧ a2 ≠ a4 ∧ a3 ≠ a4
theorem L5.At.nd {H : Hp} {d a1 a2 a3 a4 : Addr} {s : L5} (h : s.At H d a1 a2 a3 a4) : d ≠ a1 ∧ d ≠ a2 ∧ d ≠ a3 ∧ d ≠ a4 :=
  ⟨ne_of h.d h.c1 (by intro z; cases z), ne_of h.d h.c2 (by intro z; cases z), ne_of h.d h.c3 (by intro z; cases z), ne_of h.d h.c4 (by intro z; cases z)⟩
theorem L5.At.off {H H' : Hp} {d a1 a2 a3 a4 : Addr} {s : L5} {F : List Addr} (h : s.At H d a1 a2 a3 a4) (o : Off F H H') (n : ∀ x ∈ [d, a1, a2, a3, a4], x ∉ F) : s.At H' d a1 a2 a3 a4 :=
  ⟨o _ _ (n _ (by simp)) h.d, o _ _ (n _ (by simp)) h.c1, o _ _ (n _ (by simp)) h.c2, o _ _ (n _ (by simp)) h.c3, o _ _ (n _ (by simp)) h.c4, h.n⟩
theorem L5.At.set1 {H : Hp} {d a1 a2 a3 a4 : Addr} {s : L5} (h : s.At H d a1 a2 a3 a4) (cs : List Int) : ({ s with cells := cs } : L5).At (upd H a1 (.lst (cs.map V.int))) d a1 a2 a3 a4 := by
  obtain ⟨n12, n13, n14, n23, n24, n34⟩ := h.n
  obtain ⟨k1, k2, k3, k4⟩ := h.nd
  exact ⟨by rw [upd_ne k1]; exact h.d, upd_same, by rw [upd_ne n12.symm]; exact h.c2, by rw [upd_ne n13.symm]; exact h.c3, by rw [upd_ne n14.symm]; exact h.c4, h.n⟩
theorem L5.At.set2 {H : Hp} {d a1 a2 a3 a4 : Addr} {s : L5} (h : s.At H d a1 a2 a3 a4) (cs : List Int) : ({ s with adds := cs } : L5).At (upd H a2 (.lst (cs.map V.int))) d a1 a2 a3 a4 := by
  obtain ⟨n12, n13, n14, n23, n24, n34⟩ := h.n
  obtain ⟨k1, k2, k3, k4⟩ := h.nd
  exact ⟨by rw [upd_ne k2]; exact h.d, by rw [upd_ne n12]; exact h.c1, upd_same, by rw [upd_ne n23.symm]; exact h.c3, by rw [upd_ne n24.symm]; exact h.c4, h.n⟩
theorem L5.At.set3 {H : Hp} {d a1 a2 a3 a4 : Addr} {s : L5} (h : s.At H d a1 a2 a3 a4) (cs : List Int) : ({ s with tops := cs } : L5).At (upd H a3 (.lst (cs.map V.int))) d a1 a2 a3 a4 := by
  obtain ⟨n12, n13, n14, n23, n24, n34⟩ := h.n
  obtain ⟨k1, k2, k3, k4⟩ := h.nd
  exact ⟨by rw [upd_ne k3]; exact h.d, by rw [upd_ne n13]; exact h.c1, by rw [upd_ne n23]; exact h.c2, upd_same, by rw [upd_ne n34.symm]; exact h.c4, h.n⟩
theorem L5.At.set4 {H : Hp} {d a1 a2 a3 a4 : Addr} {s : L5} (h : s.At H d a1 a2 a3 a4) (cs : List Int) : ({ s with line := cs } : L5).At (upd H a4 (.lst (cs.map V.int))) d a1 a2 a3 a4 := by
  obtain ⟨n12, n13, n14, n23, n24, n34⟩ := h.n
  obtain ⟨k1, k2, k3, k4⟩ := h.nd
  exact ⟨by rw [upd_ne k4]; exact h.d, by rw [upd_ne n14]; exact h.c1, by rw [upd_ne n24]; exact h.c2, by rw [upd_ne n34]; exact h.c3, upd_same, h.n⟩
theorem L5.At.setD {H : Hp} {d a1 a2 a3 a4 : Addr} {s : L5} (h : s.At H d a1 a2 a3 a4) (n : Int) :
    ({ s with ones := n } : L5).At (upd H d (.dK [(Sum.inr "ones", .int n), (Sum.inr "set", .ref a1), (Sum.inr "add", .ref a2), (Sum.inr "raise", .ref a3), (Sum.inr "line", .ref a4)])) d a1 a2 a3 a4 := by
  obtain ⟨k1, k2, k3, k4⟩ := h.nd
  exact ⟨upd_same, by rw [upd_ne k1.symm]; exact h.c1, by rw [upd_ne k2.symm]; exact h.c2, by rw [upd_ne k3.symm]; exact h.c3, by rw [upd_ne k4.symm]; exact h.c4, h.n⟩
def spLPlain : Sp := fun vs H Q _ => ∃ m : Nat, vs = [.int m] ∧ m ≤ 100 ∧ ∀ d a1 a2 a3 a4 H', (∀ x ∈ [d, a1, a2, a3, a4], H x = none) → Same H H' → (L5.first m).At H' d a1 a2 a3 a4 → Q (.ref d) H'
def spAtOnce : Sp := fun vs H Q _ => ∃ (d a1 a2 a3 a4 p : Addr) (s : L5) (h m : Nat) (dd : Deed), vs = [.ref d, .int h, .ref p] ∧ s.At H d a1 a2 a3 a4 ∧ DeedAt H p dd ∧ s.Ok m ∧ 1 ≤ m ∧ h < m ∧ dd.ok ∧ s.line.length < 10000 ∧
  ∀ u H', (s.ans dd).At H' u → (s.behind h dd).At H' d a1 a2 a3 a4 → Off [d, a1, a2, a3, a4] H H' → Q u H'
end Sd
namespace Sd
open PySem L2
def spSameF : Sp := fun vs H Q _ => ∃ (u : V) (a : Ans), vs = [u, u] ∧ a.At H u ∧ (∀ cs, a ≠ .view cs) ∧ Q (.bl true) H
def spSame : Sp := fun vs H Q _ => ∃ (u v : V) (a : Ans), vs = [u, v] ∧ a.At H u ∧ a.At H v ∧ ∀ H', Same H H' → Q (.bl true) H'
def spWords : Sp := fun vs H Q _ => vs = [] ∧ ∀ p H', H p = none → Same H H' → H' p = some (.lst (words10.map V.str)) → Q (.ref p) H'
/-! the program's Plain -/
abbrev fsS (v : V) : List (Str × V) := [(("_state" : Str), v)]
theorem fsS_no {f : Str} (v : V) (h : ¬ f = "_state") : (fsS v).lookup f = none := by
  have hb : (f == ("_state" : Str)) = false := by
    cases e : f == ("_state" : Str) with
    | false => rfl
    | true => exact absurd (beq_iff_eq.mp e) h
  show List.lookup f [(("_state" : Str), v)] = none
  rw [List.lookup_cons, hb]
  rfl
theorem fsS_at (v : V) : (fsS v).lookup ("_state" : Str) = some v := by
  have hb : (("_state" : Str) == ("_state" : Str)) = true := beq_self_eq_true _
  show List.lookup ("_state" : Str) [(("_state" : Str), v)] = _
  rw [List.lookup_cons, hb]
theorem fsS_put (v u : V) : putF "_state" u (fsS v) = fsS u := rfl
def PlainAt (C : Addr) (H : Hp) (b : Addr) (s : St5) : Prop := ∃ dx v, H b = some (.ins C dx (fsS v)) ∧ s.At H v
theorem St5.At.ins {H : Hp} {v : V} {s : St5} {p C dx : Addr} {fs : List (Str × V)} {o : HO} (h : s.At H v) (hp : H p = some (.ins C dx fs)) : s.At (upd H p o) v := by
  obtain ⟨t, pc, pl, rfl, h1, h2, h3⟩ := h
  exact ⟨t, pc, pl, rfl, by rw [upd_ne (ne_of h1 hp (by intro z; cases z))]; exact h1, by rw [upd_ne (ne_of h2 hp (by intro z; cases z))]; exact h2, by rw [upd_ne (ne_of h3 hp (by intro z; cases z))]; exact h3⟩
theorem Ans.At.ins {H : Hp} {v : V} {a : Ans} {p C dx : Addr} {fs : List (Str × V)} {o : HO} (h : a.At H v) (hp : H p = some (.ins C dx fs)) : a.At (upd H p o) v := by
  cases a with
  | non => exact h
  | int n => exact h
  | view cs =>
    obtain ⟨t, e, h1⟩ := h
    exact ⟨t, e, by rw [upd_ne (ne_of h1 hp (by intro z; cases z))]; exact h1⟩
def spPInit (C : Addr) : Sp := fun vs H Q _ => ∃ (p dx : Addr) (m : Nat), vs = [.ref p, .int m] ∧ 1 ≤ m ∧ m ≤ 100 ∧ H p = some (.ins C dx []) ∧
  ∀ (H' : Hp), But p H H' → PlainAt C H' p (St5.first m) → Q .non H'
def spDone (C : Addr) : Sp := fun vs H Q _ => ∃ (b p : Addr) (s : St5) (h m : Nat) (d : Deed), vs = [.ref b, .int h, .ref p] ∧ PlainAt C H b s ∧ DeedAt H p d ∧ s.Ok m ∧ m ≤ 100 ∧ h < m ∧
  ∀ u H', (s.ans d).At H' u → PlainAt C H' b (s.behind h d) → But b H H' → Q u H'
end Sd

/-! tuples: slices, sums, whether an object is new or the old one -/
namespace Sd
open PySem L2
theorem cut_take {xs : List V} {h : Nat} (hh : h ≤ xs.length) : cutV xs none (some (h : Int)) = xs.take h := by
  unfold cutV
  rw [HT.sIx_nat, HT.sIx_none, List.drop_zero, Nat.sub_zero, Nat.min_eq_left hh]
theorem cut_drop {xs : List V} {h : Nat} : cutV xs (some (h : Int)) none = xs.drop h := by
  unfold cutV
  rw [HT.sIx_nat, HT.sIx_none]
  by_cases e : h ≤ xs.length
  · rw [Nat.min_eq_left e]
    exact List.take_of_length_le (by rw [List.length_drop]; omega)
  · rw [Nat.min_eq_right (by omega), Nat.sub_self, List.take_zero, List.drop_eq_nil_of_le (by omega)]
theorem cat_any {H : Hp} {a b : Addr} {xs ys : List V} {Q : VK} (ha : H a = some (.tup xs)) (hb : H b = some (.tup ys)) (q : ∀ u H', Same H H' → H' u = some (.tup (xs ++ ys)) → Q (.ref u) H') :
    (xs = [] → Q (.ref b) H) ∧ (xs ≠ [] → ys = [] → Q (.ref a) H) ∧ (xs ≠ [] → ys ≠ [] → ∀ p, H p = none → Q (.ref p) (upd H p (.tup (xs ++ ys)))) := by
  refine ⟨fun e => q b H (Same.refl H) ?_, fun _ e => q a H (Same.refl H) ?_, fun _ _ p hp => q p _ (Same.new hp) upd_same⟩
  · rw [e]
    exact hb
  · rw [e, List.append_nil]
    exact ha
theorem slice_any {H : Hp} {a : Addr} {xs : List V} {lo hi : Option Int} {Q : VK} (ha : H a = some (.tup xs)) (q : ∀ u H', Same H H' → H' u = some (.tup (cutV xs lo hi)) → Q (.ref u) H') :
    (HT.sIx xs.length 0 lo = 0 ∧ HT.sIx xs.length xs.length hi = xs.length → Q (.ref a) H) ∧ (¬ (HT.sIx xs.length 0 lo = 0 ∧ HT.sIx xs.length xs.length hi = xs.length) → ∀ p, H p = none → Q (.ref p) (upd H p (.tup (cutV xs lo hi)))) := by
  refine ⟨fun e => q a H (Same.refl H) ?_, fun _ p hp => q p _ (Same.new hp) upd_same⟩
  unfold cutV
  rw [e.1, e.2, List.drop_zero, Nat.sub_zero, List.take_length]
  exact ha
theorem cat_r {K : PySem.W.Frag} {H : Hp} {a b : Addr} {xs ys : List V} {Q : VK} (ha : H a = some (.tup xs)) (hb : H b = some (.tup ys)) (hn : xs.length + ys.length ≤ 1001) (q : ∀ u H', Same H H' → H' u = some (.tup (xs ++ ys)) → Q (.ref u) H') : rCatA K (.ref a) (.ref b) H Q :=
  ⟨a, b, xs, ys, rfl, rfl, SqT.of ha, SqT.of hb, Nat.le_trans hn (by decide), cat_any ha hb q⟩
theorem cat_rL {K : PySem.W.Frag} {H : Hp} {a b : Addr} {xs ys : List V} {Q : VK} (ha : H a = some (.tup xs)) (hb : H b = some (.tup ys)) (hn : xs.length + ys.length ≤ 10001) (q : ∀ u H', Same H H' → H' u = some (.tup (xs ++ ys)) → Q (.ref u) H') : rCatA K (.ref a) (.ref b) H Q :=
  ⟨a, b, xs, ys, rfl, rfl, SqT.of ha, SqT.of hb, Nat.le_trans hn (by decide), cat_any ha hb q⟩
theorem slice_r {K : PySem.W.Frag} {H : Hp} {a : Addr} {xs : List V} {lo hi : Option Int} {Q : VK} (ha : H a = some (.tup xs)) (q : ∀ u H', Same H H' → H' u = some (.tup (cutV xs lo hi)) → Q (.ref u) H') : rSlA K (.ref a) lo hi H Q :=
  ⟨a, xs, rfl, SqT.of ha, slice_any ha q⟩
end Sd

/-! what is a deed, what is none -/
namespace Sd
open PySem L2
def kvThing : List (Str × Int) := [("one", 0), ("count", 0), ("set", 1), ("look", 1), ("add", 2), ("sum", 2), ("raise", 3), ("top", 3), ("give", 4), ("take", 4)]
def noThing : List Str := ["ones", "", "Set", "two"]
def with4 : List Str := ["set", "add", "raise", "give"]
def less6 : List Str := ["one", "count", "look", "sum", "top", "take"]
theorem Deed.kv : ∀ d : Deed, (d.word, (d.thing : Int)) ∈ kvThing
  | .one => (by decide +kernel : (("one" : Str), (0 : Int)) ∈ kvThing)
  | .count => (by decide +kernel : (("count" : Str), (0 : Int)) ∈ kvThing)
  | .set _ => (by decide +kernel : (("set" : Str), (1 : Int)) ∈ kvThing)
  | .look => (by decide +kernel : (("look" : Str), (1 : Int)) ∈ kvThing)
  | .add _ => (by decide +kernel : (("add" : Str), (2 : Int)) ∈ kvThing)
  | .sum => (by decide +kernel : (("sum" : Str), (2 : Int)) ∈ kvThing)
  | .rais _ => (by decide +kernel : (("raise" : Str), (3 : Int)) ∈ kvThing)
  | .top => (by decide +kernel : (("top" : Str), (3 : Int)) ∈ kvThing)
  | .give _ => (by decide +kernel : (("give" : Str), (4 : Int)) ∈ kvThing)
  | .take => (by decide +kernel : (("take" : Str), (4 : Int)) ∈ kvThing)
theorem Deed.mem10 : ∀ d : Deed, d.word ∈ words10
  | .one => (by decide +kernel : ("one" : Str) ∈ words10)
  | .count => (by decide +kernel : ("count" : Str) ∈ words10)
  | .set _ => (by decide +kernel : ("set" : Str) ∈ words10)
  | .look => (by decide +kernel : ("look" : Str) ∈ words10)
  | .add _ => (by decide +kernel : ("add" : Str) ∈ words10)
  | .sum => (by decide +kernel : ("sum" : Str) ∈ words10)
  | .rais _ => (by decide +kernel : ("raise" : Str) ∈ words10)
  | .top => (by decide +kernel : ("top" : Str) ∈ words10)
  | .give _ => (by decide +kernel : ("give" : Str) ∈ words10)
  | .take => (by decide +kernel : ("take" : Str) ∈ words10)
theorem Deed.word_take : ∀ d : Deed, d.word = "take" → d = .take
  | .take, _ => rfl
  | .one, h => absurd h (by decide +kernel : ¬ (("one" : Str) = "take"))
  | .count, h => absurd h (by decide +kernel : ¬ (("count" : Str) = "take"))
  | .set _, h => absurd h (by decide +kernel : ¬ (("set" : Str) = "take"))
  | .look, h => absurd h (by decide +kernel : ¬ (("look" : Str) = "take"))
  | .add _, h => absurd h (by decide +kernel : ¬ (("add" : Str) = "take"))
  | .sum, h => absurd h (by decide +kernel : ¬ (("sum" : Str) = "take"))
  | .rais _, h => absurd h (by decide +kernel : ¬ (("raise" : Str) = "take"))
  | .top, h => absurd h (by decide +kernel : ¬ (("top" : Str) = "take"))
  | .give _, h => absurd h (by decide +kernel : ¬ (("give" : Str) = "take"))
theorem kv_of {w : Str} (h : w ∈ words10) : ∃ v, (w, v) ∈ kvThing := by
  obtain ⟨d, rfl⟩ := word_of h
  exact ⟨_, d.kv⟩
/-- a deed that hand h may do -/
def Good (H : Hp) (h : Int) (p : Addr) : Prop := ∃ d : Deed, DeedAt H p d ∧ d.ok ∧ (d = .take → h = 0)
def BadV (h : Int) (xs : List V) : Prop :=
  xs = [] ∨ (∃ w r, xs = .str w :: r ∧ w ∈ noThing) ∨ (∃ w r, xs = .str w :: r ∧ w ∈ with4 ∧ r.length ≠ 1) ∨ (∃ w n, xs = [.str w, .int n] ∧ w ∈ with4 ∧ ¬ (0 ≤ n ∧ n ≤ 999)) ∨
  (∃ w r, xs = .str w :: r ∧ w ∈ less6 ∧ r ≠ []) ∨ (xs = [.str "take"] ∧ h ≠ 0)
def Bad (H : Hp) (h : Int) (p : Addr) : Prop := ∃ xs, H p = some (.tup xs) ∧ BadV h xs
def spNN (ND : Addr) : Sp := fun vs H Q E => ∃ (p : Addr) (w : Str) (r : List V), vs = [.ref p] ∧ H p = some (.tup (.str w :: r)) ∧
  ((∃ n, r = [.int n] ∧ 0 ≤ n ∧ n ≤ 999 ∧ Q .non H) ∨ ((r.length ≠ 1 ∨ ∃ n, r = [.int n] ∧ ¬ (0 ≤ n ∧ n ≤ 999)) ∧ E (.ref ND) none H))
def spNeedDeed (ND : Addr) : Sp := fun vs H Q E => ∃ (p : Addr) (h : Int), vs = [.ref p, .int h] ∧ ((Good H h p ∧ Q .non H) ∨ (Bad H h p ∧ E (.ref ND) none H))
end Sd

/-! a hall in the heap -/
namespace Sd
open PySem L2
abbrev hfs (hand plan many ended ones took beg out reading readings steps : V) : List (Str × V) :=
  [(("_hand" : Str), hand), (("_plan" : Str), plan), (("_many" : Str), many), (("_ended" : Str), ended), (("_ones" : Str), ones), (("_took" : Str), took), (("_begin" : Str), beg), (("_outcome" : Str), out), (("_reading" : Str), reading), (("_readings" : Str), readings), (("steps" : Str), steps)]
abbrev gfs (boxes hands records marks touches : V) : List (Str × V) :=
  [(("_boxes" : Str), boxes), (("_hands" : Str), hands), (("_records" : Str), records), (("_marks" : Str), marks), (("_touches" : Str), touches)]
abbrev bfs (l : V) : List (Str × V) := [(("_numbers" : Str), l)]
/-- tuples stand -/
def Tu (H H' : Hp) : Prop := ∀ b xs, H b = some (.tup xs) → H' b = some (.tup xs)
theorem Tu.refl (H : Hp) : Tu H H := fun _ _ h => h
theorem Tu.trans {H H1 H2 : Hp} (a : Tu H H1) (b : Tu H1 H2) : Tu H H2 := fun c o h => b c o (a c o h)
theorem Tu.same {H H' : Hp} (s : Same H H') : Tu H H' := fun b xs h => s b _ h
theorem Tu.off {F : List Addr} {H H' : Hp} (s : Off F H H') (n : ∀ x ∈ F, ∀ xs, H x ≠ some (.tup xs)) : Tu H H' := fun b xs h => s b _ (fun m => n b m xs h) h
theorem Tu.upd {H : Hp} {p : Addr} {o : HO} (n : ∀ xs, H p ≠ some (.tup xs)) : Tu H (L2.upd H p o) := fun b xs h => by
  rw [upd_ne (fun z => n xs (by rw [← z]; exact h))]
  exact h
theorem Ans.At.tu {H H' : Hp} {v : V} {a : Ans} (h : a.At H v) (s : Tu H H') : a.At H' v := by
  cases a with
  | non => exact h
  | int n => exact h
  | view cs =>
    obtain ⟨p, e, hp⟩ := h
    exact ⟨p, e, s _ _ hp⟩
def MarkAt (H : Hp) (v : V) : Mark → Prop
  | .non => v = .non
  | .mom n => v = .int n
  | .gift h k => ∃ p, v = .ref p ∧ H p = some (.tup [.int h, .int k])
theorem MarkAt.tu {H H' : Hp} {v : V} {a : Mark} (h : MarkAt H v a) (s : Tu H H') : MarkAt H' v a := by
  cases a with
  | non => exact h
  | mom n => exact h
  | gift i k =>
    obtain ⟨p, e, hp⟩ := h
    exact ⟨p, e, s _ _ hp⟩
def numV : Option Int → V
  | none => .non
  | some n => .int n
def OutAt (H : Hp) (v : V) : Option Out → Prop
  | none => v = .non
  | some o => ∃ p av mv, v = .ref p ∧ H p = some (.tup [numV o.num, av, mv]) ∧ o.ans.At H av ∧ MarkAt H mv o.mark
theorem OutAt.tu {H H' : Hp} {v : V} {a : Option Out} (h : OutAt H v a) (s : Tu H H') : OutAt H' v a := by
  cases a with
  | none => exact h
  | some o =>
    obtain ⟨p, av, mv, e, hp, h1, h2⟩ := h
    exact ⟨p, av, mv, e, s _ _ hp, h1.tu s, h2.tu s⟩
def TouchAt (H : Hp) (v : V) (t : Touch) : Prop := ∃ p, v = .ref p ∧ H p = some (.tup [.int t.hand, .str (if t.put then "put" else "take"), .int t.place, .int t.num])
theorem TouchAt.tu {H H' : Hp} {v : V} {a : Touch} (h : TouchAt H v a) (s : Tu H H') : TouchAt H' v a := by
  obtain ⟨p, e, hp⟩ := h
  exact ⟨p, e, s _ _ hp⟩
def RecAt (H : Hp) (v : V) (r : Rec) : Prop := ∃ p dp av, v = .ref p ∧ H p = some (.tup [.int r.hand, .ref dp, .int r.beg, .int r.fin, av]) ∧ DeedAt H dp r.deed ∧ r.ans.At H av
theorem RecAt.tu {H H' : Hp} {v : V} {a : Rec} (h : RecAt H v a) (s : Tu H H') : RecAt H' v a := by
  obtain ⟨p, dp, av, e, hp, h1, h2⟩ := h
  exact ⟨p, dp, av, e, s _ _ hp, s _ _ h1, h2.tu s⟩
def PlanAt (H : Hp) (ps : List Addr) (plan : List Deed) : Prop := Paired (fun p d => DeedAt H p d) ps plan
theorem PlanAt.tu {H H' : Hp} {ps : List Addr} {plan : List Deed} (h : PlanAt H ps plan) (s : Tu H H') : PlanAt H' ps plan := L2.Paired.mapP h fun a b e => s _ _ e
/-- the objects of one hand -/
structure HG where
  hp : Addr
  tk : Addr
  rd : Addr
  rs : Addr
  pl : Addr
  rrs : List Addr
abbrev HG.list (g : HG) : List Addr := g.hp :: g.tk :: g.rd :: g.rs :: g.pl :: g.rrs
structure HandAt (C : Addr) (H : Hp) (g : HG) (i many : Nat) (plan : List Deed) (h : HandM) : Prop where
  ob : ∃ dx ov, H g.hp = some (.ins C dx (hfs (.int i) (.ref g.pl) (.int many) (.int h.ended) (.int h.ones) (.ref g.tk) (.int h.beg) ov (.ref g.rd) (.ref g.rs) (.int h.steps))) ∧ OutAt H ov h.out
  pl : ∃ ps : List Addr, H g.pl = some (.lst (ps.map V.ref)) ∧ PlanAt H ps plan
  tk : H g.tk = some (.lst (h.took.map fun n : Nat => V.int (n : Int)))
  rd : H g.rd = some (.lst (h.reading.map V.int))
  rs : H g.rs = some (.lst (g.rrs.map V.ref))
  rr : Paired (fun p r => H p = some (.lst (r.map V.int))) g.rrs h.readings
  n1 : g.tk ≠ g.rd ∧ g.tk ≠ g.rs ∧ g.rd ≠ g.rs ∧ g.pl ≠ g.tk ∧ g.pl ≠ g.rd ∧ g.pl ≠ g.rs
  n2 : g.tk ∉ g.rrs ∧ g.rd ∉ g.rrs ∧ g.rs ∉ g.rrs
theorem HandAt.noTup {C : Addr} {H : Hp} {g : HG} {i many : Nat} {plan : List Deed} {h : HandM} (a : HandAt C H g i many plan h) : ∀ x ∈ g.list, ∀ xs, H x ≠ some (.tup xs) := by
  intro x hx xs e
  rcases List.mem_cons.mp hx with rfl | hx
  · obtain ⟨_, _, e2, _⟩ := a.ob
    rw [e2] at e; cases e
  rcases List.mem_cons.mp hx with rfl | hx
  · rw [a.tk] at e; cases e
  rcases List.mem_cons.mp hx with rfl | hx
  · rw [a.rd] at e; cases e
  rcases List.mem_cons.mp hx with rfl | hx
  · rw [a.rs] at e; cases e
  rcases List.mem_cons.mp hx with rfl | hx
  · obtain ⟨_, e2, _⟩ := a.pl
    rw [e2] at e; cases e
  · obtain ⟨i, hi, ei⟩ := List.mem_iff_getElem.mp hx
    have : ∀ {ps : List Addr} {rs : List (List Int)}, Paired (fun p r => H p = some (.lst (r.map V.int))) ps rs → ∀ y ∈ ps, ∃ r : List Int, H y = some (.lst (r.map V.int)) := by
      intro ps rs hp
      induction hp with
      | nil => intro y hy; cases hy
      | cons r t ih =>
        intro y hy
        rcases List.mem_cons.mp hy with rfl | hy
        · exact ⟨_, r⟩
        · exact ih y hy
    obtain ⟨r, hr⟩ := this a.rr x hx
    rw [hr] at e
    cases e
theorem HandAt.off {C : Addr} {H H' : Hp} {g : HG} {i many : Nat} {plan : List Deed} {h : HandM} {F : List Addr} (a : HandAt C H g i many plan h) (o : Off F H H') (n : ∀ x ∈ g.list, x ∉ F) (t : Tu H H') : HandAt C H' g i many plan h := by
  obtain ⟨dx, ov, h1, h2⟩ := a.ob
  obtain ⟨ps, p1, p2⟩ := a.pl
  refine ⟨⟨dx, ov, o _ _ (n _ (by simp)) h1, h2.tu t⟩, ⟨ps, o _ _ (n _ (by simp)) p1, p2.tu t⟩, o _ _ (n _ (by simp)) a.tk, o _ _ (n _ (by simp)) a.rd, o _ _ (n _ (by simp)) a.rs, ?_, a.n1, a.n2⟩
  have : ∀ {ps : List Addr} {rs : List (List Int)}, Paired (fun p r => H p = some (.lst (r.map V.int))) ps rs → (∀ y ∈ ps, y ∉ F) → Paired (fun p r => H' p = some (.lst (r.map V.int))) ps rs := by
    intro ps rs hp
    induction hp with
    | nil => intro _; exact .nil
    | cons r t ih => intro m; exact .cons (o _ _ (m _ List.mem_cons_self) r) (ih fun y hy => m y (List.mem_cons_of_mem _ hy))
  exact this a.rr fun y hy => n y (by simp only [HG.list, List.mem_cons]; exact .inr (.inr (.inr (.inr (.inr hy)))))
/-- the objects of a hall -/
structure HallG where
  ha : Addr
  bx : Addr
  bl : Addr
  hl : Addr
  rc : Addr
  mr : Addr
  tc : Addr
  hs : List HG
abbrev HallG.own (g : HallG) : List Addr := [g.ha, g.bx, g.bl, g.hl, g.rc, g.mr, g.tc]
abbrev HallG.list (g : HallG) : List Addr := g.own ++ g.hs.flatMap HG.list
structure HallAt (CB CD CH : Addr) (H : Hp) (g : HallG) (s : HallM) : Prop where
  ob : ∃ dx, H g.ha = some (.ins CH dx (gfs (.ref g.bx) (.ref g.hl) (.ref g.rc) (.ref g.mr) (.ref g.tc)))
  bx : ∃ dx, H g.bx = some (.ins CB dx (bfs (.ref g.bl)))
  bl : H g.bl = some (.lst (s.boxes.map V.int))
  hl : H g.hl = some (.lst (g.hs.map fun x => V.ref x.hp))
  rc : ∃ vs, H g.rc = some (.lst vs) ∧ Paired (RecAt H) vs s.recs
  mr : ∃ vs, H g.mr = some (.lst vs) ∧ Paired (MarkAt H) vs s.marks
  tc : ∃ vs, H g.tc = some (.lst vs) ∧ Paired (TouchAt H) vs s.touches
  len : g.hs.length = s.many
  hand : ∀ (i : Nat) (x : HG), g.hs[i]? = some x → HandAt CD H x i s.many (s.plan i) (s.hand i)
  own : [g.bl, g.hl, g.rc, g.mr, g.tc].Nodup ∧ g.ha ≠ g.bx
  apart : ∀ (i : Nat) (x : HG), g.hs[i]? = some x → ∀ y ∈ x.list, y ∉ g.own
  sep : ∀ (i j : Nat) (x z : HG), i ≠ j → g.hs[i]? = some x → g.hs[j]? = some z → ∀ y ∈ x.list, y ∉ z.list
end Sd
namespace Sd
open PySem L2
theorem HandAt.tracked {C : Addr} {H : Hp} {g : HG} {i many : Nat} {plan : List Deed} {h : HandM} (a : HandAt C H g i many plan h) : ∀ x ∈ g.list, ∃ o, H x = some o := by
  intro x hx
  rcases List.mem_cons.mp hx with rfl | hx
  · obtain ⟨_, _, e2, _⟩ := a.ob
    exact ⟨_, e2⟩
  rcases List.mem_cons.mp hx with rfl | hx
  · exact ⟨_, a.tk⟩
  rcases List.mem_cons.mp hx with rfl | hx
  · exact ⟨_, a.rd⟩
  rcases List.mem_cons.mp hx with rfl | hx
  · exact ⟨_, a.rs⟩
  rcases List.mem_cons.mp hx with rfl | hx
  · obtain ⟨_, e2, _⟩ := a.pl
    exact ⟨_, e2⟩
  · have : ∀ {ps : List Addr} {rs : List (List Int)}, Paired (fun p r => H p = some (.lst (r.map V.int))) ps rs → ∀ y ∈ ps, ∃ r : List Int, H y = some (.lst (r.map V.int)) := by
      intro ps rs hp
      induction hp with
      | nil => intro y hy; cases hy
      | cons r t ih =>
        intro y hy
        rcases List.mem_cons.mp hy with rfl | hy
        · exact ⟨_, r⟩
        · exact ih y hy
    obtain ⟨r, hr⟩ := this a.rr x hx
    exact ⟨_, hr⟩
theorem HandAt.same {C : Addr} {H H' : Hp} {g : HG} {i many : Nat} {plan : List Deed} {h : HandM} (a : HandAt C H g i many plan h) (s : Same H H') : HandAt C H' g i many plan h :=
  a.off (F := []) (Off.of_same s) (by simp) (Tu.same s)
/-- the hands made so far -/
structure Made (C : Addr) (H0 H : Hp) (D : Addr) (gs : List HG) (m : Nat) (plans : List (List Deed)) : Prop where
  lst : H D = some (.lst (gs.map fun x => V.ref x.hp))
  hand : ∀ (i : Nat) (x : HG), gs[i]? = some x → HandAt C H x i m (plans.getD i []) (HandM.new m)
  free : ∀ x ∈ gs, ∀ y ∈ x.list, H0 y = none ∧ y ≠ D
  sep : ∀ (i j : Nat) (x z : HG), i ≠ j → gs[i]? = some x → gs[j]? = some z → ∀ y ∈ x.list, y ∉ z.list
theorem Made.add {C D : Addr} {H0 H H' : Hp} {gs : List HG} {m : Nat} {plans : List (List Deed)} {g : HG} (a : Made C H0 H D gs m plans) (s0 : Same H0 H) (s : Same H H') (h : HandAt C H' g gs.length m (plans.getD gs.length []) (HandM.new m)) (hf : ∀ y ∈ g.list, H y = none) (hD : D ∉ g.list) :
    Made C H0 (upd H' D (.lst ((gs.map fun x => V.ref x.hp) ++ [.ref g.hp]))) D (gs ++ [g]) m plans := by
  have oD : Off [D] H' (upd H' D (.lst ((gs.map fun x => V.ref x.hp) ++ [.ref g.hp]))) := Off.upd (List.mem_singleton.mpr rfl)
  have tD : Tu H' (upd H' D (.lst ((gs.map fun x => V.ref x.hp) ++ [.ref g.hp]))) := Tu.upd fun xs e => by
    rw [s _ _ a.lst] at e
    cases e
  refine ⟨?_, ?_, ?_, ?_⟩
  · rw [upd_same, List.map_append]
    rfl
  · intro i x hx
    rcases Nat.lt_trichotomy i gs.length with c | c | c
    · rw [List.getElem?_append_left c] at hx
      refine ((a.hand i x hx).same s).off oD (fun y hy mm => ?_) tD
      exact ((a.free x (List.mem_of_getElem? hx)) y hy).2 (List.mem_singleton.mp mm)
    · subst c
      rw [List.getElem?_append_right (Nat.le_refl _), Nat.sub_self] at hx
      cases hx
      exact h.off oD (fun y hy mm => hD (by rw [← List.mem_singleton.mp mm]; exact hy)) tD
    · rw [List.getElem?_eq_none (by rw [List.length_append]; exact c)] at hx
      cases hx
  · intro x hx y hy
    rcases List.mem_append.mp hx with hx | hx
    · exact a.free x hx y hy
    · rw [List.mem_singleton.mp hx] at hy
      exact ⟨s0.free (hf y hy), fun z => hD (by rw [← z]; exact hy)⟩
  · intro i j x z n hx hz y hy hy2
    have old : ∀ (i : Nat) (x : HG), (gs ++ [g])[i]? = some x → (i < gs.length ∧ gs[i]? = some x) ∨ (i = gs.length ∧ x = g) := fun i x hx => by
      rcases Nat.lt_trichotomy i gs.length with c | c | c
      · rw [List.getElem?_append_left c] at hx
        exact .inl ⟨c, hx⟩
      · subst c
        rw [List.getElem?_append_right (Nat.le_refl _), Nat.sub_self] at hx
        cases hx
        exact .inr ⟨rfl, rfl⟩
      · rw [List.getElem?_eq_none (by rw [List.length_append]; exact c)] at hx
        cases hx
    rcases old i x hx with ⟨c1, e1⟩ | ⟨c1, e1⟩
    · rcases old j z hz with ⟨c2, e2⟩ | ⟨c2, e2⟩
      · exact a.sep i j x z n e1 e2 y hy hy2
      · obtain ⟨o, ho⟩ := (a.hand i x e1).tracked y hy
        rw [hf y (by rw [← e2]; exact hy2)] at ho
        cases ho
    · rcases old j z hz with ⟨c2, e2⟩ | ⟨c2, e2⟩
      · obtain ⟨o, ho⟩ := (a.hand j z e2).tracked y hy2
        rw [hf y (by rw [← e1]; exact hy)] at ho
        cases ho
      · omega
end Sd

/-! what the making of a hall promises -/
namespace Sd
open PySem L2
def spBInit (C : Addr) : Sp := fun vs H Q _ => ∃ (p dx : Addr) (n : Int), vs = [.ref p, .int n] ∧ 0 ≤ n ∧ n ≤ 100000 ∧ H p = some (.ins C dx []) ∧
  ∀ (l : Addr) (H' : Hp), H l = none → But p H H' → H' p = some (.ins C dx (bfs (.ref l))) → H' l = some (.lst ((List.replicate n.toNat (0 : Int)).map V.int)) → Q .non H'
def spHandInit (C : Addr) : Sp := fun vs H Q _ => ∃ (p pl dx : Addr) (i m : Nat) (ps : List Addr) (plan : List Deed), vs = [.ref p, .int i, .ref pl, .int m] ∧ H p = some (.ins C dx []) ∧ H pl = some (.lst (ps.map V.ref)) ∧ PlanAt H ps plan ∧ m ≤ 100 ∧
  ∀ (g : HG) (H' : Hp), g.hp = p → g.pl = pl → g.rrs = [] → H g.tk = none → H g.rd = none → H g.rs = none → But p H H' → HandAt C H' g i m plan (HandM.new m) → Q .non H'
/-- the plans handed in: a list of lists of deeds -/
def PlansAt (H : Hp) (pl : Addr) (ls : List Addr) (pss : List (List Addr)) : Prop := H pl = some (.lst (ls.map V.ref)) ∧ Paired (fun l ps => H l = some (.lst (ps.map V.ref))) ls pss
def GoodPlan (H : Hp) (h : Int) (ps : List Addr) : Prop := ps.length ≤ 40 ∧ ∀ p ∈ ps, Good H h p
def BadPlan (H : Hp) (h : Int) (ps : List Addr) : Prop := 40 < ps.length ∨ ∃ (k : Nat) (p : Addr), ps[k]? = some p ∧ Bad H h p ∧ ∀ (j : Nat) (q : Addr), j < k → ps[j]? = some q → Good H h q
def spNeedPlans (NH ND : Addr) : Sp := fun vs H Q E => ∃ (pl : Addr) (ls : List Addr) (pss : List (List Addr)), vs = [.ref pl] ∧ PlansAt H pl ls pss ∧ pss.length ≤ 1000 ∧ (∀ ps ∈ pss, ps.length ≤ 100000) ∧
  ((0 < pss.length ∧ pss.length ≤ 4 ∧ (∀ (i : Nat) (ps : List Addr), pss[i]? = some ps → GoodPlan H i ps) ∧ Q .non H) ∨ ((pss.length = 0 ∨ 4 < pss.length) ∧ E (.ref NH) none H) ∨
    (0 < pss.length ∧ pss.length ≤ 4 ∧ (∃ (i : Nat) (ps : List Addr), pss[i]? = some ps ∧ BadPlan H i ps ∧ ∀ (j : Nat) (qs : List Addr), j < i → pss[j]? = some qs → GoodPlan H j qs) ∧ E (.ref ND) none H))
def spHallInit (CB CD CH NH ND : Addr) : Sp := fun vs H Q E => ∃ (p dx pl : Addr) (ls : List Addr) (pss : List (List Addr)), vs = [.ref p, .ref pl] ∧ H p = some (.ins CH dx []) ∧ PlansAt H pl ls pss ∧ pss.length ≤ 1000 ∧ (∀ ps ∈ pss, ps.length ≤ 100000) ∧
  ((∃ plans : List (List Deed), 0 < pss.length ∧ pss.length ≤ 4 ∧ (∀ (i : Nat) (ps : List Addr), pss[i]? = some ps → GoodPlan H i ps) ∧ Paired (fun ps plan => PlanAt H ps plan) pss plans ∧
      ∀ (g : HallG) (H' : Hp), g.ha = p → (∀ x ∈ g.list, x ≠ p → H x = none) → But p H H' → HallAt CB CD CH H' g (HallM.new plans) → Q .non H') ∨ ((pss.length = 0 ∨ 4 < pss.length) ∧ E (.ref NH) none H) ∨
    (0 < pss.length ∧ pss.length ≤ 4 ∧ (∃ (i : Nat) (ps : List Addr), pss[i]? = some ps ∧ BadPlan H i ps ∧ ∀ (j : Nat) (qs : List Addr), j < i → pss[j]? = some qs → GoodPlan H j qs) ∧ ∀ H', Same H H' → E (.ref ND) none H'))
def spRecords (CB CD CH : Addr) : Sp := fun vs H Q _ => ∃ (g : HallG) (s : HallM), vs = [.ref g.ha] ∧ HallAt CB CD CH H g s ∧
  ∀ (p : Addr) (rs : List V), H p = none → Paired (RecAt H) rs s.recs → Q (.ref p) (upd H p (.lst rs))
theorem Paired.get {α β : Type} {R : α → β → Prop} : ∀ {xs : List α} {ys : List β}, Paired R xs ys → ∀ {i : Nat} {y : β}, ys[i]? = some y → ∃ x, xs[i]? = some x ∧ R x y
  | _, _, .nil, i, y, h => by cases h
  | _, _, .cons r t, 0, y, h => by cases h; exact ⟨_, rfl, r⟩
  | _, _, .cons r t, i + 1, y, h => Paired.get t h
theorem Paired.get2 {α β : Type} {R : α → β → Prop} : ∀ {xs : List α} {ys : List β}, Paired R xs ys → ∀ {i : Nat} {x : α}, xs[i]? = some x → ∃ y, ys[i]? = some y ∧ R x y
  | _, _, .nil, i, y, h => by cases h
  | _, _, .cons r t, 0, y, h => by cases h; exact ⟨_, rfl, r⟩
  | _, _, .cons r t, i + 1, y, h => Paired.get2 t h
theorem Paired.len {α β : Type} {R : α → β → Prop} {xs : List α} {ys : List β} (h : Paired R xs ys) : xs.length = ys.length := PySem.Paired.length h
end Sd

/-! the law's draws of plans -/
namespace Sd
open PySem L2
/-- plans that were drawn: all in new lists -/
structure DrawnP (H0 H : Hp) (pl : Addr) (ls : List Addr) (pss : List (List Addr)) (plans : List (List Deed)) (most : Nat) : Prop where
  hpl : H pl = some (.lst (ls.map V.ref))
  hls : Paired (fun l ps => H l = some (.lst (ps.map V.ref))) ls pss
  hps : Paired (fun ps plan => PlanAt H ps plan) pss plans
  fpl : H0 pl = none
  fls : ∀ l ∈ ls, H0 l = none
  npl : pl ∉ ls
  nls : ls.Nodup
  short : ∀ plan ∈ plans, plan.length ≤ most
  ok : ∀ plan ∈ plans, ∀ d ∈ plan, d.ok
  take : ∀ (i : Nat) (plan : List Deed), plans[i]? = some plan → ∀ d ∈ plan, d = .take → i = 0
def spPlans (K : PySem.W.Frag) : Sp := fun vs H Q _ => ∃ (d a wl : Addr) (ns : List Int) (ws : List Str) (m most : Nat), vs = [.ref d, .int m, .ref wl, .int most] ∧ Dice H d a ∧ SqL K H a (ns.map V.int) ∧
  H wl = some (.lst (ws.map V.str)) ∧ wl ≠ d ∧ (∀ w ∈ ws, w ∈ words10) ∧ 0 < ws.length ∧ ws.length ≤ 100 ∧ m ≤ 100 ∧ most ≤ 1000 ∧
  ∀ pl ls pss plans H', DrawnP H H' pl ls pss plans most → plans.length = m → Dice H' d a → SqL K H' a (ns.map V.int) → But d H H' → Q (.ref pl) H'
theorem Paired.mapM {α β : Type} {R R' : α → β → Prop} : ∀ {xs : List α} {ys : List β}, Paired R xs ys → (∀ x ∈ xs, ∀ y, R x y → R' x y) → Paired R' xs ys
  | _, _, .nil, _ => .nil
  | _, _, .cons r t, h => .cons (h _ List.mem_cons_self _ r) (Paired.mapM t fun x hx y => h x (List.mem_cons_of_mem _ hx) y)
theorem Paired.app {α β : Type} {R : α → β → Prop} {x : α} {y : β} : ∀ {xs : List α} {ys : List β}, Paired R xs ys → R x y → Paired R (xs ++ [x]) (ys ++ [y])
  | _, _, .nil, h => .cons h .nil
  | _, _, .cons r t, h => .cons r (Paired.app t h)
theorem DrawnP.mono {H0 H H' : Hp} {pl : Addr} {ls : List Addr} {pss : List (List Addr)} {plans : List (List Deed)} {most : Nat} {F : List Addr} (a : DrawnP H0 H pl ls pss plans most) (o : Off F H H') (n : ∀ x ∈ pl :: ls, x ∉ F) (t : Tu H H') : DrawnP H0 H' pl ls pss plans most :=
  ⟨o _ _ (n _ List.mem_cons_self) a.hpl, Paired.mapM a.hls fun x hx y e => o _ _ (n _ (List.mem_cons_of_mem _ hx)) e, Paired.mapM a.hps fun x _ y e => e.tu t, a.fpl, a.fls, a.npl, a.nls, a.short, a.ok, a.take⟩
theorem DrawnP.add {H0 H : Hp} {pl p : Addr} {ls ps : List Addr} {pss : List (List Addr)} {plans : List (List Deed)} {plan : List Deed} {most : Nat} (a : DrawnP H0 H pl ls pss plans most) (hp : H p = some (.lst (ps.map V.ref))) (hps : PlanAt H ps plan) (fp : H0 p = none) (n1 : p ≠ pl) (n2 : p ∉ ls)
    (h1 : plan.length ≤ most) (h2 : ∀ d ∈ plan, d.ok) (h3 : ∀ d ∈ plan, d = .take → plans.length = 0) : DrawnP H0 (upd H pl (.lst ((ls.map V.ref) ++ [.ref p]))) pl (ls ++ [p]) (pss ++ [ps]) (plans ++ [plan]) most := by
  have t : Tu H (upd H pl (.lst ((ls.map V.ref) ++ [.ref p]))) := Tu.upd fun xs e => by
    rw [a.hpl] at e
    cases e
  refine ⟨?_, ?_, ?_, a.fpl, ?_, ?_, ?_, ?_, ?_, ?_⟩
  · rw [upd_same, List.map_append]
    rfl
  · refine Paired.app (Paired.mapM a.hls fun x hx y e => ?_) ?_
    · rw [upd_ne (fun z => a.npl (by rw [← z]; exact hx))]
      exact e
    · rw [upd_ne n1]
      exact hp
  · exact Paired.app (Paired.mapM a.hps fun x _ y e => e.tu t) (hps.tu t)
  · intro l hl
    rcases List.mem_append.mp hl with hl | hl
    · exact a.fls l hl
    · rw [List.mem_singleton.mp hl]
      exact fp
  · intro hm
    rcases List.mem_append.mp hm with hm | hm
    · exact a.npl hm
    · exact n1 (List.mem_singleton.mp hm).symm
  · refine List.nodup_append.mpr ⟨a.nls, by simp, fun x hx y hy => ?_⟩
    rw [List.mem_singleton.mp hy]
    exact fun z => n2 (by rw [← z]; exact hx)
  · intro q hq
    rcases List.mem_append.mp hq with hq | hq
    · exact a.short q hq
    · rw [List.mem_singleton.mp hq]
      exact h1
  · intro q hq
    rcases List.mem_append.mp hq with hq | hq
    · exact a.ok q hq
    · rw [List.mem_singleton.mp hq]
      exact h2
  · intro i q hq d hd ht
    rcases Nat.lt_or_ge i plans.length with c | c
    · rw [List.getElem?_append_left c] at hq
      exact a.take i q hq d hd ht
    · rw [List.getElem?_append_right c] at hq
      cases e : i - plans.length with
      | zero =>
        rw [e] at hq
        cases hq
        have := h3 d hd ht
        omega
      | succ n =>
        rw [e] at hq
        rw [List.getElem?_cons_succ, List.getElem?_nil] at hq
        cases hq
end Sd

namespace Sd
open PySem L2
def spRefusedD : Sp := fun vs H Q _ => ∃ (p : Addr) (h : Int), vs = [.ref p, .int h] ∧ Bad H h p ∧ ∀ H', Same H H' → Q (.bl true) H'
def spNoHall : Sp := fun vs H Q _ => ∃ (pl : Addr) (ls : List Addr) (pss : List (List Addr)), vs = [.ref pl] ∧ PlansAt H pl ls pss ∧ pss.length ≤ 1000 ∧ (∀ ps ∈ pss, ps.length ≤ 100000) ∧ 0 < pss.length ∧ pss.length ≤ 4 ∧
  (∃ (i : Nat) (ps : List Addr), pss[i]? = some ps ∧ BadPlan H i ps ∧ ∀ (j : Nat) (qs : List Addr), j < i → pss[j]? = some qs → GoodPlan H j qs) ∧ ∀ H', Same H H' → Q (.bl true) H'
def spOdd (K : PySem.W.Frag) : Sp := fun vs H Q _ => ∃ (d a : Addr) (ns : List Int), vs = [.ref d] ∧ Dice H d a ∧ SqL K H a (ns.map V.int) ∧
  ∀ (p : Addr) (H' : Hp), (∃ xs, H' p = some (.tup xs) ∧ ∀ h : Int, BadV h xs) → Dice H' d a → But d H H' → Q (.ref p) H'
end Sd
namespace Sd
open PySem L2
/-- a copy of lists, list by list -/
structure Copied (H0 H : Hp) (D : Addr) (cs : List Addr) (pss : List (List Addr)) : Prop where
  st : Same H0 H
  hD : H D = some (.lst (cs.map V.ref))
  hcs : Paired (fun c ps => H c = some (.lst (ps.map V.ref))) cs pss
  fr : ∀ c ∈ cs, H0 c = none ∧ c ≠ D
  nd : cs.Nodup
  fD : H0 D = none
theorem Copied.add {H0 H : Hp} {D c : Addr} {cs ps : List Addr} {pss : List (List Addr)} (a : Copied H0 H D cs pss) (hc : H c = none) :
    Copied H0 (upd (upd H c (.lst (ps.map V.ref))) D (.lst (cs.map V.ref ++ [.ref c]))) D (cs ++ [c]) (pss ++ [ps]) := by
  have nc : c ≠ D := fun z => by rw [z, a.hD] at hc; cases hc
  have ncs : c ∉ cs := fun m => by
    obtain ⟨i, hi, e⟩ := List.mem_iff_getElem.mp m
    obtain ⟨y, _, hy⟩ := Paired.get2 a.hcs (show cs[i]? = some c by rw [List.getElem?_eq_getElem hi, e])
    rw [hc] at hy
    cases hy
  refine ⟨fun x o e => ?_, ?_, ?_, ?_, ?_, a.fD⟩
  · rw [upd_ne (ne_of_none e a.fD), upd_ne (ne_of_none (a.st _ _ e) hc)]
    exact a.st _ _ e
  · rw [upd_same, List.map_append]
    rfl
  · refine Paired.app (Paired.mapM a.hcs fun x hx y e => ?_) ?_
    · rw [upd_ne (a.fr x hx).2, upd_ne (fun z => ncs (by rw [← z]; exact hx))]
      exact e
    · rw [upd_ne nc, upd_same]
  · intro x hx
    rcases List.mem_append.mp hx with hx | hx
    · exact a.fr x hx
    · rw [List.mem_singleton.mp hx]
      exact ⟨a.st.free hc, nc⟩
  · refine List.nodup_append.mpr ⟨a.nd, by simp, fun x hx y hy => ?_⟩
    rw [List.mem_singleton.mp hy]
    exact fun z => ncs (by rw [← z]; exact hx)
theorem Paired.set {α β : Type} {R : α → β → Prop} {x : α} {y : β} : ∀ {xs : List α} {ys : List β} (i : Nat), Paired R xs ys → R x y → Paired R (xs.set i x) (ys.set i y)
  | _, _, _, .nil, _ => .nil
  | _, _, 0, .cons _ t, h => .cons h t
  | _, _, i + 1, .cons r t, h => .cons r (Paired.set i t h)
theorem DrawnP.good {H0 H : Hp} {pl : Addr} {ls : List Addr} {pss : List (List Addr)} {plans : List (List Deed)} {most : Nat} (a : DrawnP H0 H pl ls pss plans most) (hm : most ≤ 40) (i : Nat) (ps : List Addr) (hi : pss[i]? = some ps) : GoodPlan H i ps := by
  obtain ⟨plan, hp, hP⟩ := Paired.get2 a.hps hi
  have hmem := List.mem_of_getElem? hp
  refine ⟨?_, fun p hpp => ?_⟩
  · rw [Paired.len hP]
    exact Nat.le_trans (a.short plan hmem) hm
  · obtain ⟨j, hj, e⟩ := List.mem_iff_getElem.mp hpp
    obtain ⟨d, hd, hD⟩ := Paired.get2 hP (show ps[j]? = some p by rw [List.getElem?_eq_getElem hj, e])
    have hdm := List.mem_of_getElem? hd
    exact ⟨d, hD, a.ok plan hmem d hdm, fun z => by rw [a.take i plan hp d hdm z]; rfl⟩
theorem GoodPlan.tu {H H' : Hp} {h : Int} {ps : List Addr} (g : GoodPlan H h ps) (t : Tu H H') : GoodPlan H' h ps := ⟨g.1, fun p hp => by
  obtain ⟨d, e, r⟩ := g.2 p hp
  exact ⟨d, t _ _ e, r⟩⟩
end Sd


namespace K05
open PySem L2
def top (i : Nat) : Stmt := PySem.Challenge.pw_stillhands_k05_deeds_that_are_none.main.body.getD i (.Pass ⟨0, 0, 0, 0⟩)
abbrev s__wall : Stmt := top 0
abbrev s_need_deed : Stmt := top 14
abbrev s__need_number : Stmt := top 15
abbrev s_Boxes__init_ : Stmt := inClass (top 17) 0
abbrev s_Boxes_take : Stmt := inClass (top 17) 1
abbrev s_Boxes_put : Stmt := inClass (top 17) 2
abbrev s_Boxes_need : Stmt := inClass (top 17) 3
abbrev s_counter_outcome : Stmt := top 19
abbrev s_packed : Stmt := top 22
abbrev s_parted : Stmt := top 23
abbrev s_line_outcome : Stmt := top 25
abbrev s__given : Stmt := top 26
abbrev s__left : Stmt := top 27
abbrev s_picture_outcome : Stmt := top 30
abbrev s__view : Stmt := top 31
abbrev s__row : Stmt := top 32
abbrev s__cell_behind : Stmt := top 33
abbrev s_Hand__init_ : Stmt := inClass (top 35) 0
abbrev s_Hand_is_through : Stmt := inClass (top 35) 1
abbrev s_Hand_step : Stmt := inClass (top 35) 2
abbrev s_Hand_keep : Stmt := inClass (top 35) 3
abbrev s_Hand_outcome_of : Stmt := inClass (top 35) 4
abbrev s_Hand_end : Stmt := inClass (top 35) 5
abbrev s_told_order : Stmt := top 38
abbrev s__moment : Stmt := top 39
abbrev s__line_keys : Stmt := top 40
abbrev s__gives : Stmt := top 41
abbrev s_Hall__init_ : Stmt := inClass (top 45) 0
abbrev s_Hall_step : Stmt := inClass (top 45) 1
abbrev s_Hall_weave : Stmt := inClass (top 45) 2
abbrev s_Hall_steps_of : Stmt := inClass (top 45) 3
abbrev s_Hall_records : Stmt := inClass (top 45) 4
abbrev s_Hall_order : Stmt := inClass (top 45) 5
abbrev s_Hall_touches : Stmt := inClass (top 45) 6
abbrev s_Hall_need : Stmt := inClass (top 45) 7
abbrev s__need_plans : Stmt := top 46
abbrev s_l_cell : Stmt := top 48
abbrev s_l_dice : Stmt := top 49
abbrev s_l_off : Stmt := top 50
abbrev s_l_deed : Stmt := top 51
abbrev s_l_plans : Stmt := top 52
abbrev s_l_refused : Stmt := top 53
abbrev s_l_no_hall : Stmt := top 54
abbrev s_l_odd : Stmt := top 55
abbrev s_law : Stmt := top 56
structure Dr (K : PySem.W.Frag) (mg : Str → Option Value) : Prop where
  abs : mg "abs" = none
  len : mg "len" = none
  max : mg "max" = none
  int : mg "int" = none
structure Txt (K : PySem.W.Frag) (mg : Str → Option Value) (w : World) (A_Boxes A_Hand A_Hall A_HandsError A_NoNumber A_NoBox A_NoHand A_NoDeed A_THING_OF A_WITH_A_NUMBER : Addr) (tT tG tH tD : Tok) : Prop extends Dr K mg where
  range : mg "range" = none
  isinstance : mg "isinstance" = none
  bool : mg "bool" = none
  list : mg "list" = none
  ValueError : mg "ValueError" = none
  m_GREATEST : mg "GREATEST" = some (.int 999 tG)
  m_MOST_HANDS : mg "MOST_HANDS" = some (.int 4 tH)
  m_MOST_DEEDS : mg "MOST_DEEDS" = some (.int 40 tD)
  m_THINGS : mg "THINGS" = some (.int 5 tT)
  m_NoHand : mg "NoHand" = some (.ref A_NoHand)
  r_NoHand : Sd.Ref K A_NoHand A_HandsError []
  m_Boxes : mg "Boxes" = some (.ref A_Boxes)
  cl_Boxes : Cls K A_Boxes
  n_Boxes__numbers : NoAttr K A_Boxes "_numbers"
  m_Hand : mg "Hand" = some (.ref A_Hand)
  cl_Hand : Cls K A_Hand
  n_Hand__hand : NoAttr K A_Hand "_hand"
  n_Hand__plan : NoAttr K A_Hand "_plan"
  n_Hand__many : NoAttr K A_Hand "_many"
  n_Hand__ended : NoAttr K A_Hand "_ended"
  n_Hand__ones : NoAttr K A_Hand "_ones"
  n_Hand__took : NoAttr K A_Hand "_took"
  n_Hand__begin : NoAttr K A_Hand "_begin"
  n_Hand__outcome : NoAttr K A_Hand "_outcome"
  n_Hand__reading : NoAttr K A_Hand "_reading"
  n_Hand__readings : NoAttr K A_Hand "_readings"
  n_Hand_steps : NoAttr K A_Hand "steps"
  m_Hall : mg "Hall" = some (.ref A_Hall)
  cl_Hall : Cls K A_Hall
  n_Hall__boxes : NoAttr K A_Hall "_boxes"
  n_Hall__hands : NoAttr K A_Hall "_hands"
  n_Hall__records : NoAttr K A_Hall "_records"
  n_Hall__marks : NoAttr K A_Hall "_marks"
  n_Hall__touches : NoAttr K A_Hall "_touches"
  m_HandsError : mg "HandsError" = some (.ref A_HandsError)
  m_NoBox : mg "NoBox" = some (.ref A_NoBox)
  m_NoNumber : mg "NoNumber" = some (.ref A_NoNumber)
  m_NoDeed : mg "NoDeed" = some (.ref A_NoDeed)
  r_NoDeed : Sd.Ref K A_NoDeed A_HandsError [A_NoBox, A_NoNumber, A_NoHand]
  r_NoDeedS : Sd.Ref K A_NoDeed A_NoDeed []
  k_THING_OF : Sd.KD K w mg "THING_OF" A_THING_OF Sd.kvThing Sd.noThing
  k_WITH_A_NUMBER : Sd.KT K mg "WITH_A_NUMBER" A_WITH_A_NUMBER Sd.with4
def spLaw (K : PySem.W.Frag) : Sp := fun vs H Q _ => ∃ (a : Addr) (ns : List Int), vs = [.ref a] ∧ SqL K H a (ns.map V.int) ∧ ns.length ≤ 63 ∧ ∀ H', Q (.bl true) H'
/-! a cell of the script -/
section
variable {P : Program} {w : World} {K : PySem.W.Frag} {mg : Str → Option Value} {base : Heap}
abbrev N_l_cell : List Str := ["_law_script", "_law_k"]
theorem sc_l_cell : FnScope N_l_cell ["_law_script", "_law_k"] (defScope s_l_cell) := ⟨rfl, rfl, rfl, by decide +kernel, rfl, by decide +kernel, by decide +kernel⟩
theorem ok_l_cell {f : Addr} {fd : FuncData} (F : Fun K "_law_cell" "_law_cell" s_l_cell f fd) (T : Dr K mg) : FnOk P w K mg base CX0 1 f fd ["_law_script", "_law_k"] (Sd.spCell K) := by
  refine F.ok sc_l_cell (fun vs H Q E h => ?_) (fun cdv A outer s H vs Q E hr h => ?_)
  · obtain ⟨a, ns, k, rfl, _⟩ := h
    rfl
  · obtain ⟨a, ns, k, rfl, h0, hS, q⟩ := h
    refine ⟨_, (pss_cons (ps_if (pt_cmpR op_lt (pv 1) (pe_callB call_len_seq (by rfl) T.len (by decide +kernel) (pa_cons (pv 0) pa_nil)) (nomark _))
      (pss_one (ps_ret (pe_ix ix_list (pv 0) (pv 1) (fun _ _ => rfl))))
      pss_nil)
      (pss_one (ps_ret pe_int))), ?_⟩
    obtain ⟨m, rfl⟩ := Int.eq_ofNat_of_zero_le h0
    refine ⟨_, rfl, _, rfl, a, _, rfl, .inl hS, _, _, rfl, rfl, _, rfl, ?_⟩
    refine ite2 (fun c => ?_) (fun c => ?_)
    · have hm : m < ns.length := by
        have c' := of_decide_eq_true c
        rw [List.length_map] at c'
        omega
      exact ⟨_, rfl, _, rfl, a, _, _, _, rfl, rfl, hS, atI_nat (Sd.ints_get (List.getElem?_eq_getElem hm)), q _⟩
    · exact q 0
end
/-! the defs of the draws -/
section
variable {P : Program} {w : World} {K : PySem.W.Frag} {mg : Str → Option Value} {base : Heap}
abbrev N_l_dice : List Str := ["_law_script", "_law_k", "_law_cell_here"]
theorem sc_l_dice : FnScope N_l_dice ["_law_script", "_law_k"] (defScope s_l_dice) := ⟨rfl, rfl, rfl, by decide +kernel, rfl, by decide +kernel, by decide +kernel⟩
theorem ok_l_dice {f : Addr} {fd : FuncData} (F : Fun K "_law_dice" "_law_dice" s_l_dice f fd) (T : Dr K mg) (C_l_cell : Sd.Cal P w K mg base CX0 1 "_law_cell" ["_law_script", "_law_k"] (Sd.spCell K)) :
    FnOk P w K mg base CX0 2 f fd ["_law_script", "_law_k"] (Sd.spDice K) := by
  refine F.ok sc_l_dice (fun vs H Q E h => ?_) (fun cdv A outer s H vs Q E hr h => ?_)
  · obtain ⟨a, ns, k, rfl, _⟩ := h
    rfl
  · obtain ⟨a, ns, k, rfl, h0, hS, q⟩ := h
    refine ⟨_, (pss_cons (ps_set (i := 2) sc_l_dice.nd rfl (Or.inl rfl) (pe_callB call_abs (by rfl) T.abs (by decide +kernel) (pa_cons (Sd.pe_fn C_l_cell (hr.mono (by decide)) pass0 (pa_cons (pv 0) (pa_cons (pv 1) pa_nil))) pa_nil)))
      (pss_one (ps_ret (pe_lst (pa_cons (pe_op op_mod (pv 2) pe_int) (pa_cons (pv 0) (pa_cons (pe_op op_add (pv 1) pe_int) (pa_cons (pe_op op_mul (pe_callTy call_int1 (by rfl) T.int (by decide +kernel) (pa_cons (pe_cmpR op_ge (pv 2) (pe_op op_pow pe_int pe_int) (nomark _)) pa_nil)) (pv 2)) pa_nil)))))))), ?_⟩
    refine ⟨_, rfl, _, rfl, a, ns, k, rfl, h0, hS, fun v => ⟨v, rfl, ?_⟩⟩
    refine ⟨_, rfl, _, _, rfl, rfl, (by show (0 : Int) < 2147483647; decide), _, rfl, _, rfl, _, _, rfl, rfl, ?_⟩
    refine ⟨_, rfl, _, _, rfl, rfl, ⟨by decide, by decide, by decide⟩, _, _, rfl, rfl, .inr ⟨_, rfl, ?_⟩⟩
    refine ⟨_, rfl, _, _, rfl, rfl, .inl ?_, (by show 4 ≤ sizeLine; decide), fun p hp => ?_⟩
    · exact Sd.b01 _
    · exact q p _ hp (Sd.Same.new hp) Sd.But.upd ⟨_, _, _, upd_same⟩ fun b n => upd_ne n
abbrev N_l_off : List Str := ["_law_d", "_law_most", "_law_found", "_law_more"]
theorem sc_l_off : FnScope N_l_off ["_law_d", "_law_most"] (defScope s_l_off) := ⟨rfl, rfl, rfl, by decide +kernel, rfl, by decide +kernel, by decide +kernel⟩
theorem ok_l_off {f : Addr} {fd : FuncData} (F : Fun K "_law_off" "_law_off" s_l_off f fd) (T : Dr K mg) (C_l_cell : Sd.Cal P w K mg base CX0 1 "_law_cell" ["_law_script", "_law_k"] (Sd.spCell K)) :
    FnOk P w K mg base CX0 2 f fd ["_law_d", "_law_most"] (Sd.spOff K) := by
  refine F.ok sc_l_off (fun vs H Q E h => ?_) (fun cdv A outer s H vs Q E hr h => ?_)
  · obtain ⟨d, a, ns, m, rfl, _⟩ := h
    rfl
  · obtain ⟨d, a, ns, m, rfl, ⟨n, k, g, hd⟩, hS, hm0, hm1, q⟩ := h
    refine ⟨_, (pss_cons (ps_if (pt_cmpR op_gt (pe_ix ix_list (pv 0) pe_int (fun _ _ => rfl)) pe_int (nomark _))
      (pss_cons (ps_set (i := 2) sc_l_off.nd rfl (Or.inl rfl) (pe_op op_mod (pe_ix ix_list (pv 0) pe_int (fun _ _ => rfl)) (pv 1)))
      (pss_cons (ps_asg (pe_op op_fdiv (pe_ix ix_list (pv 0) pe_int (fun _ _ => rfl)) (pv 1)) (pg_sub (pv 0) pe_int set_list))
      (pss_one (ps_ret (pv 2)))))
      pss_nil)
      (pss_cons (ps_set (i := 3) sc_l_off.nd rfl (Or.inl rfl) (pe_callB call_abs (by rfl) T.abs (by decide +kernel) (pa_cons (Sd.pe_fn C_l_cell (hr.mono (by decide)) pass0 (pa_cons (pe_ix ix_list (pv 0) pe_int (fun _ _ => rfl)) (pa_cons (pe_op op_mod (pe_ix ix_list (pv 0) pe_int (fun _ _ => rfl)) (pe_callB (call_max2 rfl) (by rfl) T.max (by decide +kernel) (pa_cons pe_int (pa_cons (pe_callB call_len_seq (by rfl) T.len (by decide +kernel) (pa_cons (pe_ix ix_list (pv 0) pe_int (fun _ _ => rfl)) pa_nil)) pa_nil)))) pa_nil))) pa_nil)))
      (pss_cons (ps_asg (pe_op op_add (pe_ix ix_list (pv 0) pe_int (fun _ _ => rfl)) pe_int) (pg_sub (pv 0) pe_int set_list))
      (pss_cons (ps_asg (pe_op op_mod (pe_op op_add (pe_op op_add (pe_op op_mul (pe_ix ix_list (pv 0) pe_int (fun _ _ => rfl)) pe_int) pe_int) (pv 3)) pe_int) (pg_sub (pv 0) pe_int set_list))
      (pss_one (ps_ret (pe_op op_mod (pe_op op_fdiv (pe_ix ix_list (pv 0) pe_int (fun _ _ => rfl)) pe_int) (pv 1)))))))), ?_⟩
    have at0 : ∀ x y z t : V, atI [x, y, z, t] (0 : Int) = some x := fun _ _ _ _ => atI_nat (j := 0) rfl
    have at1 : ∀ x y z t : V, atI [x, y, z, t] (1 : Int) = some y := fun _ _ _ _ => atI_nat (j := 1) rfl
    have at2 : ∀ x y z t : V, atI [x, y, z, t] (2 : Int) = some z := fun _ _ _ _ => atI_nat (j := 2) rfl
    have at3 : ∀ x y z t : V, atI [x, y, z, t] (3 : Int) = some t := fun _ _ _ _ => atI_nat (j := 3) rfl
    refine ⟨_, rfl, d, _, _, _, rfl, rfl, SqL.of hd, at3 _ _ _ _, _, _, rfl, rfl, _, rfl, ?_⟩
    refine ite2 (fun c => ?_) (fun c => ?_)
    · refine ⟨_, rfl, d, _, _, _, rfl, rfl, SqL.of hd, at3 _ _ _ _, _, rfl, _, _, rfl, rfl, hm0, ?_⟩
      refine ⟨_, rfl, d, _, _, _, rfl, rfl, SqL.of hd, at3 _ _ _ _, _, rfl, _, _, rfl, rfl, ⟨hm0, hm1⟩, _, rfl, d, _, _, 3, rfl, rfl, hd, rfl, ?_⟩
      exact ⟨_, rfl, q _ _ (Int.emod_nonneg _ (by omega)) (Int.emod_lt_of_pos _ hm0) ⟨n, k, _, upd_same⟩ fun b e => upd_ne e⟩
    · refine ⟨_, rfl, d, _, _, _, rfl, rfl, SqL.of hd, at1 _ _ _ _, _, rfl, d, _, _, _, rfl, rfl, SqL.of hd, at2 _ _ _ _, ?_⟩
      refine ⟨_, rfl, d, _, _, _, rfl, rfl, SqL.of hd, at1 _ _ _ _, a, _, rfl, .inl hS, _, _, rfl, ?_⟩
      have hM : (0 : Int) < (if (((ns.map V.int).length : Nat) : Int) > 1 then (((ns.map V.int).length : Nat) : Int) else 1) := by
        split <;> omega
      refine ⟨_, _, rfl, rfl, hM, ?_⟩
      refine ⟨a, ns, _, rfl, Int.emod_nonneg _ (by omega), hS, fun v => ⟨v, rfl, ?_⟩⟩
      refine ⟨_, rfl, d, _, _, _, rfl, rfl, SqL.of hd, at2 _ _ _ _, _, _, rfl, rfl, _, rfl, d, _, _, 2, rfl, rfl, hd, rfl, ?_⟩
      refine ⟨_, rfl, d, _, _, _, rfl, rfl, SqL.of upd_same, at0 _ _ _ _, _, _, rfl, rfl, .inr ⟨by decide, by decide⟩, _, _, rfl, rfl, ?_⟩
      refine ⟨_, rfl, _, _, rfl, rfl, _, _, rfl, rfl, (by show (0 : Int) < 2147483647; decide), _, rfl, d, _, _, 0, rfl, rfl, upd_same, rfl, ?_⟩
      refine ⟨_, rfl, d, _, _, _, rfl, rfl, SqL.of upd_same, at0 _ _ _ _, _, _, rfl, rfl, ⟨by decide, by decide⟩, _, rfl, _, _, rfl, rfl, hm0, ?_⟩
      exact q _ _ (Int.emod_nonneg _ (by omega)) (Int.emod_lt_of_pos _ hm0) ⟨_, _, _, upd_same⟩ fun b e => by rw [upd_ne e, upd_ne e]
end

section
variable {P : Program} {w : World} {K : PySem.W.Frag} {mg : Str → Option Value} {base : Heap}
abbrev N_l_deed : List Str := ["_law_d", "_law_word"]
theorem sc_l_deed : FnScope N_l_deed ["_law_d", "_law_word"] (defScope s_l_deed) := ⟨rfl, rfl, rfl, by decide +kernel, rfl, by decide +kernel, by decide +kernel⟩
theorem ok_l_deed {f : Addr} {fd : FuncData} (F : Fun K "_law_deed" "_law_deed" s_l_deed f fd) (T : Dr K mg)
    (C_l_off : Sd.Cal P w K mg base CX0 2 "_law_off" ["_law_d", "_law_most"] (Sd.spOff K))
    : FnOk P w K mg base CX0 3 f fd ["_law_d", "_law_word"] (Sd.spLDeed K) := by
  refine F.ok sc_l_deed (fun vs H Q E h => ?_) (fun cdv A outer s H vs Q E hr h => ?_)
  · obtain ⟨d, a, ns, w, rfl, _⟩ := h
    rfl
  · obtain ⟨d, a, ns, w, rfl, hw, D, hS, q⟩ := h
    refine ⟨_, (pss_cons (ps_if (pt_cmpR op_in_seq (pv 1) (pe_lst (pa_cons pe_str (pa_cons pe_str (pa_cons pe_str (pa_cons pe_str pa_nil))))) (by rfl))
      (pss_one (ps_ret (pe_tup (pa_cons (pv 1) (pa_cons (pe_ix ix_list (pe_lst (pa_cons (Sd.pe_fn C_l_off (hr.mono (by decide)) pass0 (pa_cons (pv 0) (pa_cons pe_int pa_nil))) (pa_cons (Sd.pe_fn C_l_off (hr.mono (by decide)) pass0 (pa_cons (pv 0) (pa_cons pe_int pa_nil))) pa_nil))) (Sd.pe_fn C_l_off (hr.mono (by decide)) pass0 (pa_cons (pv 0) (pa_cons pe_int pa_nil))) (fun _ _ => rfl)) pa_nil)))))
      pss_nil)
      (pss_one (ps_ret (pe_tup (pa_cons (pv 1) pa_nil))))), ?_⟩
    refine ⟨_, rfl, (by show 4 ≤ sizeLine; decide), fun p hp => ⟨p, _, rfl, .inl (SqL.of upd_same), rfl, rfl, _, rfl, ?_⟩⟩
    have D1 : Sd.Dice (upd H p (.lst [.str "set", .str "add", .str "raise", .str "give"])) d a := D.same (Sd.Same.new hp)
    have S1 : SqL K (upd H p (.lst [.str "set", .str "add", .str "raise", .str "give"])) a (ns.map V.int) := (Sd.Same.new hp).seq hS
    have s1 : Same H (upd H p (.lst [.str "set", .str "add", .str "raise", .str "give"])) := Sd.Same.new hp
    generalize upd H p (.lst [.str "set", .str "add", .str "raise", .str "give"]) = H1 at D1 S1 s1
    obtain ⟨dd, rfl⟩ := Sd.word_of hw
    cases dd
    all_goals first
      | refine ⟨_, rfl, (by show 1 ≤ sizeLine; decide), fun t ht => ?_⟩
        exact q t _ _ rfl trivial (s1.free ht) upd_same (D1.same (Sd.Same.new ht)) (Sd.Same.but (s1.trans (Sd.Same.new ht)))
      | refine ⟨_, rfl, _, rfl, d, a, ns, 1000, rfl, D1, S1, by decide, by decide, fun r1 H2 r10 r11 D2 o2 => ?_⟩
        have b2 : Sd.But d H1 H2 := fun c u n e => by rw [o2 c n]; exact e
        have S2 := D1.seq b2 S1
        refine ⟨_, rfl, d, a, ns, 4, rfl, D2, S2, by decide, by decide, fun r2 H3 r20 r21 D3 o3 => ?_⟩
        have b3 : Sd.But d H2 H3 := fun c u n e => by rw [o3 c n]; exact e
        have S3 := D2.seq b3 S2
        refine ⟨(by show 2 ≤ sizeLine; decide), fun l hl => ?_⟩
        have D4 : Sd.Dice (upd H3 l (.lst [.int r1, .int r2])) d a := D3.same (Sd.Same.new hl)
        refine ⟨_, rfl, d, a, ns, 2, rfl, D4, (Sd.Same.new hl).seq S3, by decide, by decide, fun r3 H5 r30 r31 D5 o5 => ?_⟩
        have nl : l ≠ d := fun z => by
          obtain ⟨_, hd⟩ := D3.some
          rw [z, hd] at hl
          cases hl
        have hl5 : H5 l = some (.lst [.int r1, .int r2]) := by rw [o5 l nl]; exact upd_same
        obtain ⟨z, hz, hzz⟩ := Sd.two_at (n := r1) (m := r2) r30 r31
        refine ⟨l, _, _, _, rfl, rfl, SqL.of hl5, hz, ?_⟩
        refine ⟨(by show 2 ≤ sizeLine; decide), fun t ht => ?_⟩
        have b5 : Sd.But d (upd H3 l (.lst [.int r1, .int r2])) H5 := fun c u n e => by rw [o5 c n]; exact e
        have bt : ∀ o, Sd.But d H (upd H5 t o) := fun o => ((((Sd.Same.but (d := d) s1).trans b2).trans b3).trans (Sd.Same.but (Sd.Same.new hl))).trans (b5.trans (Sd.Same.but (Sd.Same.new ht)))
        have hf : H t = none := by
          cases e : H t with
          | none => rfl
          | some u =>
            have n : t ≠ d := fun z => by
              obtain ⟨_, hd⟩ := D5.some
              rw [z, hd] at ht
              cases ht
            have e5 := (((((Sd.Same.but (d := d) s1).trans b2).trans b3).trans (Sd.Same.but (Sd.Same.new hl))).trans b5) t u n e
            rw [ht] at e5
            cases e5
        have ok9 : 0 ≤ z ∧ z ≤ 999 := by
          rcases hzz with rfl | rfl <;> omega
        first
          | exact q t _ (.set z) rfl ok9 hf upd_same (D5.same (Sd.Same.new ht)) (bt _)
          | exact q t _ (.add z) rfl ok9 hf upd_same (D5.same (Sd.Same.new ht)) (bt _)
          | exact q t _ (.rais z) rfl ok9 hf upd_same (D5.same (Sd.Same.new ht)) (bt _)
          | exact q t _ (.give z) rfl ok9 hf upd_same (D5.same (Sd.Same.new ht)) (bt _)
end

section
variable {P : Program} {w : World} {K : PySem.W.Frag} {mg : Str → Option Value} {base : Heap} {A_Boxes A_Hand A_Hall A_HandsError A_NoNumber A_NoBox A_NoHand A_NoDeed A_THING_OF A_WITH_A_NUMBER : Addr} {tT tG tH tD : Tok}
abbrev N__need_number : List Str := ["deed"]
theorem sc__need_number : FnScope N__need_number ["deed"] (defScope s__need_number) := ⟨rfl, rfl, rfl, by decide +kernel, rfl, by decide +kernel, by decide +kernel⟩
theorem ok__need_number {f : Addr} {fd : FuncData} (F : Fun K "_need_number" "_need_number" s__need_number f fd) (T : (Txt K mg w A_Boxes A_Hand A_Hall A_HandsError A_NoNumber A_NoBox A_NoHand A_NoDeed A_THING_OF A_WITH_A_NUMBER tT tG tH tD))
    : FnOk P w K mg base (L2.CX P w) 1 f fd ["deed"] (Sd.spNN A_NoDeed) := by
  refine F.okX sc__need_number (fun vs H Q E h => ?_) (fun cdv A outer s H vs Q E hr h => ?_)
  · obtain ⟨p, wd, r, rfl, _⟩ := h
    rfl
  · obtain ⟨p, wd, r, rfl, hp, q⟩ := h
    refine ⟨_, (pss_cons (ps_if (pt_cmpR op_ne (pe_callB call_len_seq (by rfl) T.len (by decide +kernel) (pa_cons (pv 0) pa_nil)) pe_int (nomark _))
      (pss_one (ps_raise rfl (takes_of rfl rfl rfl rfl) (pmk_own PySem.F.excBase_ValueError T.r_NoDeed.ex T.m_NoDeed T.r_NoDeed.kp (raises_own T.r_NoDeed.b T.r_NoDeed.t) rfl)))
      pss_nil)
      (pss_one (ps_if (PW.pt (pw_or (pt_cmpR op_lt (pe_ix ix_tup (pv 0) pe_int (fun _ _ => rfl)) pe_int (nomark _)) (pw_or1 (pt_cmpR op_gt (pe_ix ix_tup (pv 0) pe_int (fun _ _ => rfl)) (pe_glob (v := .int 999) rfl T.m_GREATEST ⟨_, rfl⟩) (nomark _)))))
      (pss_one (ps_raise rfl (takes_of rfl rfl rfl rfl) (pmk_own PySem.F.excBase_ValueError T.r_NoDeed.ex T.m_NoDeed T.r_NoDeed.kp (raises_own T.r_NoDeed.b T.r_NoDeed.t) rfl)))
      pss_nil))), ?_⟩
    refine ⟨_, rfl, p, _, rfl, .inr (SqT.of hp), rfl, _, rfl, ?_⟩
    rcases q with ⟨n, rfl, n0, n1, q⟩ | ⟨hb, q⟩
    · refine ⟨_, rfl, p, _, _, _, rfl, rfl, SqT.of hp, atI_nat (j := 1) rfl, _, _, rfl, rfl, _, rfl, ?_⟩
      refine ite2 (fun c => absurd (of_decide_eq_true c) (by omega)) (fun _ => ?_)
      refine ⟨_, rfl, p, _, _, _, rfl, rfl, SqT.of hp, atI_nat (j := 1) rfl, _, _, rfl, rfl, _, rfl, ?_⟩
      refine ite2 (fun c => absurd (of_decide_eq_true c) (by omega)) (fun _ => q)
    · by_cases e : r.length = 1
      · rcases hb with hb | ⟨n, rfl, hb⟩
        · exact absurd e hb
        · refine ⟨_, rfl, p, _, _, _, rfl, rfl, SqT.of hp, atI_nat (j := 1) rfl, _, _, rfl, rfl, _, rfl, ?_⟩
          refine ite2 (fun c => q) (fun c => ?_)
          refine ⟨_, rfl, p, _, _, _, rfl, rfl, SqT.of hp, atI_nat (j := 1) rfl, _, _, rfl, rfl, _, rfl, ?_⟩
          refine ite2 (fun c => q) (fun c2 => ?_)
          have d1 : ¬ (n < 0) := fun z => c (decide_eq_true z)
          have d2 : ¬ (999 < n) := fun z => c2 (decide_eq_true z)
          exact absurd ⟨by omega, by omega⟩ hb
      · refine ite2 (fun _ => q) (fun c => ?_)
        refine absurd ?_ c
        have : (V.int (((V.str wd :: r).length : Nat) : Int) = V.int 2) → False := fun z => by
          injection z with z
          rw [List.length_cons] at z
          omega
        rw [decide_eq_false this]
        rfl
abbrev N_need_deed : List Str := ["deed", "hand"]
theorem sc_need_deed : FnScope N_need_deed ["deed", "hand"] (defScope s_need_deed) := ⟨rfl, rfl, rfl, by decide +kernel, rfl, by decide +kernel, by decide +kernel⟩
theorem ok_need_deed {f : Addr} {fd : FuncData} (F : Fun K "need_deed" "need_deed" s_need_deed f fd) (T : (Txt K mg w A_Boxes A_Hand A_Hall A_HandsError A_NoNumber A_NoBox A_NoHand A_NoDeed A_THING_OF A_WITH_A_NUMBER tT tG tH tD))
    (C__need_number : Sd.Cal P w K mg base (L2.CX P w) 1 "_need_number" ["deed"] (Sd.spNN A_NoDeed))
    : FnOk P w K mg base (L2.CX P w) 2 f fd ["deed", "hand"] (Sd.spNeedDeed A_NoDeed) := by
  refine F.okX sc_need_deed (fun vs H Q E h => ?_) (fun cdv A outer s H vs Q E hr h => ?_)
  · obtain ⟨p, hd, rfl, _⟩ := h
    rfl
  · obtain ⟨p, hd, rfl, q⟩ := h
    refine ⟨_, (pss_cons (ps_if (PW.pt (pw_or (pt_cmpR op_eq (pe_callB call_len_seq (by rfl) T.len (by decide +kernel) (pa_cons (pv 0) pa_nil)) pe_int (nomark _)) (pw_or1 (pt_cmpR Sd.op_notKD (pe_ix ix_tup (pv 0) pe_int (fun _ _ => rfl)) (pe_glob (v := .ref A_THING_OF) rfl T.k_THING_OF.m rfl) (by rfl)))))
      (pss_one (ps_raise rfl (takes_of rfl rfl rfl rfl) (pmk_own PySem.F.excBase_ValueError T.r_NoDeed.ex T.m_NoDeed T.r_NoDeed.kp (raises_own T.r_NoDeed.b T.r_NoDeed.t) rfl)))
      pss_nil)
      (C8.pss_cut (ps_if (pt_cmpR op_in_seq (pe_ix ix_tup (pv 0) pe_int (fun _ _ => rfl)) (pe_glob (v := .ref A_WITH_A_NUMBER) rfl T.k_WITH_A_NUMBER.m rfl) (by rfl))
      (pss_one (ps_expr (Sd.pe_fn C__need_number (hr.mono (by decide)) (passes_call (takes_of rfl rfl rfl rfl) (fun _ _ _ _ h => h)) (pa_cons (pv 0) pa_nil))))
      (pss_one (ps_if (pt_cmpR op_gt (pe_callB call_len_seq (by rfl) T.len (by decide +kernel) (pa_cons (pv 0) pa_nil)) pe_int (nomark _))
      (pss_one (ps_raise rfl (takes_of rfl rfl rfl rfl) (pmk_own PySem.F.excBase_ValueError T.r_NoDeed.ex T.m_NoDeed T.r_NoDeed.kp (raises_own T.r_NoDeed.b T.r_NoDeed.t) rfl)))
      pss_nil)))
      (pss_one (ps_if (PW.pt (pw_and (pt_cmpR op_eq (pe_ix ix_tup (pv 0) pe_int (fun _ _ => rfl)) pe_str (nomark _)) (pw_and1 (pt_cmpR op_ne (pv 1) pe_int (nomark _)))))
      (pss_one (ps_raise rfl (takes_of rfl rfl rfl rfl) (pmk_own PySem.F.excBase_ValueError T.r_NoDeed.ex T.m_NoDeed T.r_NoDeed.kp (raises_own T.r_NoDeed.b T.r_NoDeed.t) rfl)))
      pss_nil)))), ?_⟩
    obtain ⟨es, ne, hes, hke⟩ := T.k_THING_OF.lk
    have isin : ∀ {wd : Str}, wd ∈ Sd.words10 → ∃ r, PySem.W.nsIn K A_THING_OF wd = some r ∧ r.isSome = true := fun hm => by
      obtain ⟨v, hv⟩ := Sd.kv_of hm
      obtain ⟨t, e⟩ := T.k_THING_OF.at_ _ hv
      exact ⟨_, e, rfl⟩
    rcases q with ⟨⟨d, hp, hok, ht⟩, q⟩ | ⟨⟨xs, hp, hb⟩, q⟩
    · obtain ⟨r, hr, hs⟩ := isin d.mem10
      have st1 : ∀ {X Y : Prop}, Y → (if (!r.isSome) = true then X else Y) := fun y => by
        rw [hs]
        exact y
      have hp' : H p = some (.tup d.vals) := hp
      have hD : d.vals = V.str d.word :: d.vals.drop 1 := by cases d <;> rfl
      cases d
      all_goals
        refine ⟨_, rfl, p, _, rfl, .inr (SqT.of hp'), rfl, _, rfl, ?_⟩
        refine ⟨_, rfl, p, _, _, _, rfl, rfl, SqT.of hp', atI_nat (j := 0) rfl, _, A_THING_OF, es, ne, _, rfl, rfl, hes, hke, T.k_THING_OF.lo, hr, _, rfl, st1 ?_⟩
        refine ⟨fun σ' H' => σ' = [some (.ref p), some (.int hd)] ∧ H' = H, ?_, ?_⟩
        · refine ⟨_, rfl, p, _, _, _, rfl, rfl, SqT.of hp', atI_nat (j := 0) rfl, A_WITH_A_NUMBER, _, rfl, .inr (T.k_WITH_A_NUMBER.at_ _), rfl, rfl, _, rfl, ?_⟩
          first
            | exact ⟨_, rfl, p, _, _, rfl, hp', .inl ⟨_, rfl, hok.1, hok.2, rfl, rfl⟩⟩
            | exact ⟨_, rfl, p, _, rfl, .inr (SqT.of hp'), _, _, rfl, rfl, _, rfl, rfl, rfl⟩
        · rintro σ' H' ⟨rfl, rfl⟩
          refine ⟨_, rfl, p, _, _, _, rfl, rfl, SqT.of hp', atI_nat (j := 0) rfl, rfl, _, rfl, ?_⟩
          first
            | exact q
            | (refine ⟨_, rfl, rfl, _, rfl, ?_⟩
               rw [ht rfl]
               exact q)
    · have len0 : ∀ {wd : Str} {r : List V} {X Y : Prop}, Y → if decide (V.int (((V.str wd :: r).length : Nat) : Int) = V.int 0) = true then X else Y := fun {wd r X Y} y => by
        have : V.int (((V.str wd :: r).length : Nat) : Int) = V.int 0 → False := fun z => by
          injection z with z
          rw [List.length_cons] at z
          omega
        rw [decide_eq_false this]
        exact y
      have to4 : ∀ {wd : Str}, wd ∈ Sd.with4 → wd ∈ Sd.words10 := fun hw => by
        simp only [Sd.with4, List.mem_cons, List.not_mem_nil, or_false] at hw
        rcases hw with rfl | rfl | rfl | rfl <;> decide +kernel
      have to6 : ∀ {wd : Str}, wd ∈ Sd.less6 → wd ∈ Sd.words10 := fun hw => by
        simp only [Sd.less6, List.mem_cons, List.not_mem_nil, or_false] at hw
        rcases hw with rfl | rfl | rfl | rfl | rfl | rfl <;> decide +kernel
      have st1 : ∀ {r : Option Value} {X Y : Prop}, r.isSome = true → Y → (if (!r.isSome) = true then X else Y) := fun hs y => by
        rw [hs]
        exact y
      have in4 : ∀ {wd : Str}, wd ∈ Sd.with4 → inV (.str wd) (Sd.with4.map V.str) = true := fun hw => by
        simp only [Sd.with4, List.mem_cons, List.not_mem_nil, or_false] at hw
        rcases hw with rfl | rfl | rfl | rfl <;> decide +kernel
      have in6 : ∀ {wd : Str}, wd ∈ Sd.less6 → inV (.str wd) (Sd.with4.map V.str) = false := fun hw => by
        simp only [Sd.less6, List.mem_cons, List.not_mem_nil, or_false] at hw
        rcases hw with rfl | rfl | rfl | rfl | rfl | rfl <;> decide +kernel
      rcases hb with rfl | ⟨wd, r, rfl, hw⟩ | ⟨wd, r, rfl, hw, hr⟩ | ⟨wd, n, rfl, hw, hn⟩ | ⟨wd, r, rfl, hw, hr⟩ | ⟨rfl, hh⟩
      · exact ⟨_, rfl, p, _, rfl, .inr (SqT.of hp), rfl, _, rfl, q⟩
      · refine ⟨_, rfl, p, _, rfl, .inr (SqT.of hp), rfl, _, rfl, len0 ?_⟩
        exact ⟨_, rfl, p, _, _, _, rfl, rfl, SqT.of hp, atI_nat (j := 0) rfl, _, A_THING_OF, es, ne, _, rfl, rfl, hes, hke, T.k_THING_OF.lo, T.k_THING_OF.no_ _ hw, _, rfl, q⟩
      · refine ⟨_, rfl, p, _, rfl, .inr (SqT.of hp), rfl, _, rfl, len0 ?_⟩
        obtain ⟨r1, hr1, hs1⟩ := isin (to4 hw)
        refine ⟨_, rfl, p, _, _, _, rfl, rfl, SqT.of hp, atI_nat (j := 0) rfl, _, A_THING_OF, es, ne, _, rfl, rfl, hes, hke, T.k_THING_OF.lo, hr1, _, rfl, st1 hs1 ?_⟩
        refine ⟨fun _ _ => False, ?_, fun _ _ h => h.elim⟩
        refine ⟨_, rfl, p, _, _, _, rfl, rfl, SqT.of hp, atI_nat (j := 0) rfl, A_WITH_A_NUMBER, _, rfl, .inr (T.k_WITH_A_NUMBER.at_ _), rfl, rfl, _, rfl, Sd.if_yes (in4 hw) ?_⟩
        exact ⟨_, rfl, p, wd, r, rfl, hp, .inr ⟨.inl hr, q⟩⟩
      · refine ⟨_, rfl, p, _, rfl, .inr (SqT.of hp), rfl, _, rfl, len0 ?_⟩
        obtain ⟨r1, hr1, hs1⟩ := isin (to4 hw)
        refine ⟨_, rfl, p, _, _, _, rfl, rfl, SqT.of hp, atI_nat (j := 0) rfl, _, A_THING_OF, es, ne, _, rfl, rfl, hes, hke, T.k_THING_OF.lo, hr1, _, rfl, st1 hs1 ?_⟩
        refine ⟨fun _ _ => False, ?_, fun _ _ h => h.elim⟩
        refine ⟨_, rfl, p, _, _, _, rfl, rfl, SqT.of hp, atI_nat (j := 0) rfl, A_WITH_A_NUMBER, _, rfl, .inr (T.k_WITH_A_NUMBER.at_ _), rfl, rfl, _, rfl, Sd.if_yes (in4 hw) ?_⟩
        exact ⟨_, rfl, p, wd, _, rfl, hp, .inr ⟨.inr ⟨n, rfl, hn⟩, q⟩⟩
      · refine ⟨_, rfl, p, _, rfl, .inr (SqT.of hp), rfl, _, rfl, len0 ?_⟩
        obtain ⟨r1, hr1, hs1⟩ := isin (to6 hw)
        refine ⟨_, rfl, p, _, _, _, rfl, rfl, SqT.of hp, atI_nat (j := 0) rfl, _, A_THING_OF, es, ne, _, rfl, rfl, hes, hke, T.k_THING_OF.lo, hr1, _, rfl, st1 hs1 ?_⟩
        refine ⟨fun _ _ => False, ?_, fun _ _ h => h.elim⟩
        refine ⟨_, rfl, p, _, _, _, rfl, rfl, SqT.of hp, atI_nat (j := 0) rfl, A_WITH_A_NUMBER, _, rfl, .inr (T.k_WITH_A_NUMBER.at_ _), rfl, rfl, _, rfl, Sd.if_not (in6 hw) ?_⟩
        refine ⟨_, rfl, p, _, rfl, .inr (SqT.of hp), _, _, rfl, rfl, _, rfl, ?_⟩
        refine ite2 (fun _ => q) (fun c => absurd (decide_eq_true ?_) c)
        have : 0 < r.length := List.length_pos_iff.mpr hr
        rw [List.length_cons]
        omega
      · refine ⟨_, rfl, p, _, rfl, .inr (SqT.of hp), rfl, _, rfl, len0 ?_⟩
        obtain ⟨r1, hr1, hs1⟩ := isin (wd := "take") (by decide +kernel)
        refine ⟨_, rfl, p, _, _, _, rfl, rfl, SqT.of hp, atI_nat (j := 0) rfl, _, A_THING_OF, es, ne, _, rfl, rfl, hes, hke, T.k_THING_OF.lo, hr1, _, rfl, st1 hs1 ?_⟩
        refine ⟨fun σ' H' => σ' = [some (.ref p), some (.int hd)] ∧ H' = H, ?_, ?_⟩
        · refine ⟨_, rfl, p, _, _, _, rfl, rfl, SqT.of hp, atI_nat (j := 0) rfl, A_WITH_A_NUMBER, _, rfl, .inr (T.k_WITH_A_NUMBER.at_ _), rfl, rfl, _, rfl, ?_⟩
          exact ⟨_, rfl, p, _, rfl, .inr (SqT.of hp), _, _, rfl, rfl, _, rfl, rfl, rfl⟩
        · rintro σ' H' ⟨rfl, rfl⟩
          refine ⟨_, rfl, p, _, _, _, rfl, rfl, SqT.of hp, atI_nat (j := 0) rfl, rfl, _, rfl, ?_⟩
          refine ⟨_, rfl, rfl, _, rfl, ?_⟩
          have : V.int hd = V.int 0 → False := fun z => by
            injection z with z
            exact hh z
          rw [decide_eq_false this]
          exact q
end

section
variable {P : Program} {w : World} {K : PySem.W.Frag} {mg : Str → Option Value} {base : Heap} {A_Boxes A_Hand A_Hall A_HandsError A_NoNumber A_NoBox A_NoHand A_NoDeed A_THING_OF A_WITH_A_NUMBER : Addr} {tT tG tH tD : Tok}
abbrev N_Boxes__init_ : List Str := ["self", "many"]
theorem sc_Boxes__init_ : FnScope N_Boxes__init_ ["self", "many"] (defScope s_Boxes__init_) := ⟨rfl, rfl, rfl, by decide +kernel, rfl, by decide +kernel, by decide +kernel⟩
theorem ok_Boxes__init_ {f : Addr} {fd : FuncData} (F : Fun K "__init__" "Boxes.__init__" s_Boxes__init_ f fd) (T : (Txt K mg w A_Boxes A_Hand A_Hall A_HandsError A_NoNumber A_NoBox A_NoHand A_NoDeed A_THING_OF A_WITH_A_NUMBER tT tG tH tD))
    : FnOk P w K mg base CX0 1 f fd ["self", "many"] (Sd.spBInit A_Boxes) := by
  refine F.ok sc_Boxes__init_ (fun vs H Q E h => ?_) (fun cdv A outer s H vs Q E hr h => ?_)
  · obtain ⟨p, dx, n, rfl, _⟩ := h
    rfl
  · obtain ⟨p, dx, n, rfl, h0, h1, hp, q⟩ := h
    refine ⟨_, (pss_one (ps_fld (pv 0) (pe_op op_rep (pe_lst (pa_cons pe_int pa_nil)) (pv 1)) rfl)), ?_⟩
    refine ⟨(by show 1 ≤ sizeLine; decide), fun l0 hl0 => ⟨_, rfl, l0, _, _, rfl, rfl, upd_same, by omega, by omega, ?_, fun l hl => ?_⟩⟩
    · exact Sd.size1 h0 h1
    have s1 := Sd.Same.new (o := .lst [.int 0]) hl0
    have hl1 := s1.free hl
    have s2 := Sd.Same.new (o := .lst (List.replicate n.toNat [V.int 0]).flatten) hl
    generalize hX : upd (upd _ _ _) _ _ = H2 at s2 ⊢
    have c2 : H2 l = some (.lst ((List.replicate n.toNat (0 : Int)).map V.int)) := by rw [← hX, upd_same, Sd.rep_flat]
    have hp2 := (s1.trans s2) _ _ hp
    refine ⟨_, rfl, p, A_Boxes, dx, [], rfl, hp2, T.cl_Boxes, T.n_Boxes__numbers, (by show 0 < 1000; decide), ?_⟩
    refine q l _ hl1 (fun b o n e => ?_) upd_same ?_
    · rw [upd_ne n]
      exact (s1.trans s2) _ _ e
    · rw [upd_ne (ne_of_none hp hl1).symm]
      exact c2
abbrev N_Hand__init_ : List Str := ["self", "hand", "plan", "many"]
theorem sc_Hand__init_ : FnScope N_Hand__init_ ["self", "hand", "plan", "many"] (defScope s_Hand__init_) := ⟨rfl, rfl, rfl, by decide +kernel, rfl, by decide +kernel, by decide +kernel⟩
theorem ok_Hand__init_ {f : Addr} {fd : FuncData} (F : Fun K "__init__" "Hand.__init__" s_Hand__init_ f fd) (T : (Txt K mg w A_Boxes A_Hand A_Hall A_HandsError A_NoNumber A_NoBox A_NoHand A_NoDeed A_THING_OF A_WITH_A_NUMBER tT tG tH tD))
    : FnOk P w K mg base CX0 1 f fd ["self", "hand", "plan", "many"] (Sd.spHandInit A_Hand) := by
  refine F.ok sc_Hand__init_ (fun vs H Q E h => ?_) (fun cdv A outer s H vs Q E hr h => ?_)
  · obtain ⟨p, pl, dx, i, m, ps, plan, rfl, _⟩ := h
    rfl
  · obtain ⟨p, pl, dx, i, m, ps, plan, rfl, hp, hpl, hP, hm, q⟩ := h
    refine ⟨_, (pss_cons (ps_fld (pv 0) (pv 1) rfl)
      (pss_cons (ps_fld (pv 0) (pv 2) rfl)
      (pss_cons (ps_fld (pv 0) (pv 3) rfl)
      (pss_cons (ps_fld (pv 0) pe_int rfl)
      (pss_cons (ps_fld (pv 0) pe_int rfl)
      (pss_cons (ps_fld (pv 0) (pe_op op_rep (pe_lst (pa_cons pe_int pa_nil)) (pv 3)) rfl)
      (pss_cons (ps_fld (pv 0) pe_int rfl)
      (pss_cons (ps_fld (pv 0) pe_non rfl)
      (pss_cons (ps_fld (pv 0) (pe_lst pa_nil) rfl)
      (pss_cons (ps_fld (pv 0) (pe_lst pa_nil) rfl)
      (pss_one (ps_fld (pv 0) pe_int rfl)))))))))))), ?_⟩
    refine ⟨_, rfl, _, rfl, p, A_Hand, dx, _, rfl, hp, T.cl_Hand, T.n_Hand__hand, (by show 0 < 1000; decide), ?_⟩
    refine ⟨_, rfl, _, rfl, p, A_Hand, dx, _, rfl, upd_same, T.cl_Hand, T.n_Hand__plan, (by show 1 < 1000; decide), ?_⟩
    refine ⟨_, rfl, _, rfl, p, A_Hand, dx, _, rfl, upd_same, T.cl_Hand, T.n_Hand__many, (by show 2 < 1000; decide), ?_⟩
    refine ⟨_, rfl, p, A_Hand, dx, _, rfl, upd_same, T.cl_Hand, T.n_Hand__ended, (by show 3 < 1000; decide), ?_⟩
    refine ⟨_, rfl, p, A_Hand, dx, _, rfl, upd_same, T.cl_Hand, T.n_Hand__ones, (by show 4 < 1000; decide), ?_⟩
    generalize hX : upd _ _ _ = H5
    have b5 : Sd.But p H H5 := by
      rw [← hX]
      intro c o n e
      simp only [upd_ne n]
      exact e
    have h5 : H5 p = some (.ins A_Hand dx [(("_hand" : Str), .int i), (("_plan" : Str), .ref pl), (("_many" : Str), .int m), (("_ended" : Str), .int 0), (("_ones" : Str), .int 0)]) := by
      rw [← hX, upd_same]
      rfl
    clear hX
    refine ⟨(by show 1 ≤ sizeLine; decide), fun l0 hl0 => ⟨_, rfl, l0, _, _, rfl, rfl, upd_same, by omega, by omega, Sd.size1 (by omega) (by omega), fun tk htk => ?_⟩⟩
    have s1 := Sd.Same.new (o := .lst [.int 0]) hl0
    have ftk : H5 tk = none := s1.free htk
    have s2 := Sd.Same.new (o := .lst (List.replicate ((m : Nat) : Int).toNat [V.int 0]).flatten) htk
    generalize hX : upd (upd _ _ _) _ _ = H6 at s2 ⊢
    have c6 : H6 tk = some (.lst ((List.replicate m 0).map fun n : Nat => V.int (n : Int))) := by
      rw [← hX, upd_same, Int.toNat_natCast, Sd.rep_flat, List.map_replicate, List.map_replicate]
      rfl
    have s56 := s1.trans s2
    have h6 := s56 _ _ h5
    clear hX
    refine ⟨_, rfl, p, A_Hand, dx, _, rfl, h6, T.cl_Hand, T.n_Hand__took, (by show 5 < 1000; decide), ?_⟩
    refine ⟨_, rfl, p, A_Hand, dx, _, rfl, upd_same, T.cl_Hand, T.n_Hand__begin, (by show 6 < 1000; decide), ?_⟩
    refine ⟨_, rfl, p, A_Hand, dx, _, rfl, upd_same, T.cl_Hand, T.n_Hand__outcome, (by show 7 < 1000; decide), ?_⟩
    generalize hX : upd _ _ _ = H7
    have b7 : Sd.But p H6 H7 := by
      rw [← hX]
      intro c o n e
      simp only [upd_ne n]
      exact e
    have h7 : H7 p = some (.ins A_Hand dx [(("_hand" : Str), .int i), (("_plan" : Str), .ref pl), (("_many" : Str), .int m), (("_ended" : Str), .int 0), (("_ones" : Str), .int 0), (("_took" : Str), .ref tk), (("_begin" : Str), .int 0), (("_outcome" : Str), .non)]) := by
      rw [← hX, upd_same]
      rfl
    clear hX
    have ntk : tk ≠ p := (ne_of_none h5 ftk).symm
    have c7 := b7 _ _ ntk c6
    refine ⟨(by show 0 ≤ sizeLine; decide), fun rd hrd => ?_⟩
    have s8 := Sd.Same.new (o := .lst []) hrd
    have c8 : upd H7 rd (.lst []) rd = some (.lst []) := upd_same
    generalize hX : upd H7 rd (.lst []) = H8 at s8 c8 ⊢
    clear hX
    have h8 := s8 _ _ h7
    have nrd : rd ≠ p := (ne_of_none h7 hrd).symm
    refine ⟨_, rfl, p, A_Hand, dx, _, rfl, h8, T.cl_Hand, T.n_Hand__reading, (by show 8 < 1000; decide), ?_⟩
    generalize hX : upd H8 p _ = H9
    have b9 : Sd.But p H8 H9 := by
      rw [← hX]
      exact Sd.But.upd
    have h9 : H9 p = some (.ins A_Hand dx [(("_hand" : Str), .int i), (("_plan" : Str), .ref pl), (("_many" : Str), .int m), (("_ended" : Str), .int 0), (("_ones" : Str), .int 0), (("_took" : Str), .ref tk), (("_begin" : Str), .int 0), (("_outcome" : Str), .non), (("_reading" : Str), .ref rd)]) := by
      rw [← hX, upd_same]
      rfl
    clear hX
    refine ⟨(by show 0 ≤ sizeLine; decide), fun rs hrs => ?_⟩
    have s10 := Sd.Same.new (o := .lst []) hrs
    have c10 : upd H9 rs (.lst []) rs = some (.lst []) := upd_same
    generalize hX : upd H9 rs (.lst []) = H10 at s10 c10 ⊢
    clear hX
    have h10 := s10 _ _ h9
    have nrs : rs ≠ p := (ne_of_none h9 hrs).symm
    refine ⟨_, rfl, p, A_Hand, dx, _, rfl, h10, T.cl_Hand, T.n_Hand__readings, (by show 9 < 1000; decide), ?_⟩
    refine ⟨_, rfl, p, A_Hand, dx, _, rfl, upd_same, T.cl_Hand, T.n_Hand_steps, (by show 10 < 1000; decide), ?_⟩
    generalize hX : upd _ _ _ = H11
    have b11 : Sd.But p H10 H11 := by
      rw [← hX]
      intro c o n e
      simp only [upd_ne n]
      exact e
    have h11 : H11 p = some (.ins A_Hand dx (Sd.hfs (.int i) (.ref pl) (.int m) (.int 0) (.int 0) (.ref tk) (.int 0) .non (.ref rd) (.ref rs) (.int 0))) := by
      rw [← hX, upd_same]
      rfl
    clear hX
    -- what is free, what differs
    have f7 : ∀ {x : Addr}, x ≠ p → H7 x = none → H x = none := fun {x} n e => by
      cases z : H x with
      | none => rfl
      | some o =>
        rw [b7 _ _ n (s56 _ _ (b5 _ _ n z))] at e
        cases e
    have f9 : H7 rs = none := by
      cases z : H7 rs with
      | none => rfl
      | some o =>
        rw [b9 _ _ nrs (s8 _ _ z)] at hrs
        cases hrs
    have fH : H tk = none := by
      cases z : H tk with
      | none => rfl
      | some o =>
        rw [b5 _ _ ntk z] at ftk
        cases ftk
    have t11 : Sd.But p H H11 := ((((((b5.trans (Sd.Same.but s56)).trans b7).trans (Sd.Same.but s8)).trans b9).trans (Sd.Same.but s10)).trans b11)
    have npl : pl ≠ p := ne_of hpl hp (by intro z; cases z)
    have tu : Sd.Tu H H11 := fun b xs e => t11 _ _ (ne_of e hp (by intro z; cases z)) e
    have n1 : tk ≠ rd := ne_of_none c7 hrd
    have n2 : tk ≠ rs := ne_of_none c7 f9
    have n3 : rd ≠ rs := ne_of_none (b9 _ _ nrd c8) hrs
    have n4 : pl ≠ tk := ne_of_none hpl fH
    have n5 : pl ≠ rd := ne_of_none hpl (f7 nrd hrd)
    have n6 : pl ≠ rs := ne_of_none hpl (f7 nrs f9)
    refine q ⟨p, tk, rd, rs, pl, []⟩ H11 rfl rfl rfl fH (f7 nrd hrd) (f7 nrs f9) t11 ⟨⟨dx, .non, h11, rfl⟩, ⟨ps, t11 _ _ npl hpl, hP.tu tu⟩, ?_, ?_, ?_, .nil, ⟨n1, n2, n3, n4, n5, n6⟩, by simp⟩
    · exact b11 _ _ ntk (s10 _ _ (b9 _ _ ntk (s8 _ _ c7)))
    · exact b11 _ _ nrd (s10 _ _ (b9 _ _ nrd c8))
    · exact b11 _ _ nrs c10
end

section
variable {P : Program} {w : World} {K : PySem.W.Frag} {mg : Str → Option Value} {base : Heap} {A_Boxes A_Hand A_Hall A_HandsError A_NoNumber A_NoBox A_NoHand A_NoDeed A_THING_OF A_WITH_A_NUMBER : Addr} {tT tG tH tD : Tok}
abbrev N__need_plans : List Str := ["plans", "hand", "deed"]
theorem sc__need_plans : FnScope N__need_plans ["plans"] (defScope s__need_plans) := ⟨rfl, rfl, rfl, by decide +kernel, rfl, by decide +kernel, by decide +kernel⟩
theorem ok__need_plans {f : Addr} {fd : FuncData} (F : Fun K "_need_plans" "_need_plans" s__need_plans f fd) (T : (Txt K mg w A_Boxes A_Hand A_Hall A_HandsError A_NoNumber A_NoBox A_NoHand A_NoDeed A_THING_OF A_WITH_A_NUMBER tT tG tH tD))
    (C_need_deed : Sd.Cal P w K mg base (L2.CX P w) 2 "need_deed" ["deed", "hand"] (Sd.spNeedDeed A_NoDeed))
    : FnOk P w K mg base (L2.CX P w) 3 f fd ["plans"] (Sd.spNeedPlans A_NoHand A_NoDeed) := by
  refine F.okX sc__need_plans (fun vs H Q E h => ?_) (fun cdv A outer s H vs Q E hr h => ?_)
  · obtain ⟨pl, ls, pss, rfl, _⟩ := h
    rfl
  · obtain ⟨pl, ls, pss, rfl, ⟨hpl, hps⟩, hl1, hl2, q⟩ := h
    refine ⟨_, (pss_cons (ps_if (PW.pt (pw_or (pt_cmpR op_eq (pe_callB call_len_seq (by rfl) T.len (by decide +kernel) (pa_cons (pv 0) pa_nil)) pe_int (nomark _)) (pw_or1 (pt_cmpR op_gt (pe_callB call_len_seq (by rfl) T.len (by decide +kernel) (pa_cons (pv 0) pa_nil)) (pe_glob (v := .int 4) rfl T.m_MOST_HANDS ⟨_, rfl⟩) (nomark _)))))
      (pss_one (ps_raise rfl (takes_of rfl rfl rfl rfl) (pmk_own PySem.F.excBase_ValueError T.r_NoHand.ex T.m_NoHand T.r_NoHand.kp (raises_own T.r_NoHand.b T.r_NoHand.t) rfl)))
      pss_nil)
      (pss_one (ps_for (passes_of rfl) rfl (pi_range1 rfl T.range (pa_cons (pe_callB call_len_seq (by rfl) T.len (by decide +kernel) (pa_cons (pv 0) pa_nil)) pa_nil)) (pg_name (i := 1) sc__need_plans.nd rfl (Or.inl rfl))
      (pss_cons (ps_if (pt_cmpR op_gt (pe_callB call_len_seq (by rfl) T.len (by decide +kernel) (pa_cons (pe_ix ix_list (pv 0) (pv 1) (fun _ _ => rfl)) pa_nil)) (pe_glob (v := .int 40) rfl T.m_MOST_DEEDS ⟨_, rfl⟩) (nomark _))
      (pss_one (ps_raise rfl (takes_of rfl rfl rfl rfl) (pmk_own PySem.F.excBase_ValueError T.r_NoDeed.ex T.m_NoDeed T.r_NoDeed.kp (raises_own T.r_NoDeed.b T.r_NoDeed.t) rfl)))
      pss_nil)
      (pss_one (ps_for (passes_of rfl) rfl (pi_list (pe_ix ix_list (pv 0) (pv 1) (fun _ _ => rfl))) (pg_name (i := 2) sc__need_plans.nd rfl (Or.inl rfl))
      (pss_one (ps_expr (Sd.pe_fn C_need_deed (hr.mono (by decide)) (passes_call (takes_of rfl rfl rfl rfl) (fun _ _ _ _ h => h)) (pa_cons (pv 2) (pa_cons (pv 1) pa_nil))))))))))), ?_⟩
    have hlen : (ls.map V.ref).length = pss.length := by rw [List.length_map]; exact Sd.Paired.len hps
    refine ⟨_, rfl, pl, _, rfl, .inl (SqL.of hpl), rfl, _, rfl, ?_⟩
    have no : ∀ {n : Nat}, 0 < n → ¬ (decide (V.int ((n : Nat) : Int) = V.int 0) = true) := fun hn c => by
      have := of_decide_eq_true c
      injection this with e
      omega
    rcases q with ⟨n0, n4, hg, q⟩ | ⟨hn, q⟩ | ⟨n0, n4, ⟨i0, ps0, hi0, hb, hg⟩, q⟩
    · refine ite2 (fun c => absurd c (by rw [hlen]; exact no n0)) (fun _ => ?_)
      refine ⟨_, rfl, pl, _, rfl, .inl (SqL.of hpl), _, _, rfl, rfl, _, rfl, ?_⟩
      refine ite2 (fun c => absurd (of_decide_eq_true c) (by rw [hlen]; omega)) (fun _ => ?_)
      refine ⟨_, rfl, pl, _, rfl, .inl (SqL.of hpl), _, rfl, by omega, by omega, ?_⟩
      refine for_range (lo := 0) (n := ((ls.map V.ref).length : Int).toNat) (fun j σ H' => H' = H ∧ ∃ x y, σ = [some (.ref pl), x, y]) ⟨rfl, none, none, rfl⟩ ?_ (fun σ H' ⟨e, _⟩ => by rw [e]; exact q)
      rintro j σ H' hj ⟨rfl, x, y, rfl⟩
      have hj2 : j < pss.length := by omega
      obtain ⟨l, hl, hlp⟩ := Sd.Paired.get hps (List.getElem?_eq_getElem hj2)
      obtain ⟨g1, g2⟩ := hg j _ (List.getElem?_eq_getElem hj2)
      have e0 : (0 : Int) + (j : Nat) = ((j : Nat) : Int) := Int.zero_add _
      have hat : atI (ls.map V.ref) ((0 : Int) + (j : Nat)) = some (.ref l) := at_of e0 (by rw [List.getElem?_map, hl]; rfl)
      refine ⟨_, rfl, _, rfl, pl, _, _, _, rfl, rfl, SqL.of hpl, hat, l, _, rfl, .inl (SqL.of hlp), _, _, rfl, rfl, _, rfl, ?_⟩
      refine ite2 (fun c => absurd (of_decide_eq_true c) (by rw [List.length_map]; omega)) (fun _ => ?_)
      refine ⟨_, rfl, _, rfl, pl, _, _, _, rfl, rfl, SqL.of hpl, hat, l, rfl, ⟨_, SqL.of hlp⟩, ?_⟩
      refine for_list (K := K) (xs := pss[j].map V.ref) (fun k σ H2 => H2 = H' ∧ ∃ y, σ = [some (.ref pl), some (.int ((0 : Int) + (j : Nat))), y]) ⟨rfl, y, rfl⟩ (fun k σ H2 _ h => by rw [h.1]; exact SqL.of hlp) ?_ (fun σ H2 ⟨e, y2, e2⟩ => ⟨e, _, _, e2⟩)
      rintro k x2 σ H2 hx ⟨rfl, y2, rfl⟩
      rw [List.getElem?_map] at hx
      cases hp : pss[j][k]? with
      | none => rw [hp] at hx; cases hx
      | some p =>
        rw [hp] at hx
        cases hx
        refine ⟨_, rfl, _, rfl, p, _, rfl, .inl ⟨?_, rfl, _, rfl⟩⟩
        rw [e0]
        exact g2 p (List.mem_of_getElem? hp)
    · refine ite2 (fun _ => q) (fun c => ?_)
      refine ⟨_, rfl, pl, _, rfl, .inl (SqL.of hpl), _, _, rfl, rfl, _, rfl, ?_⟩
      refine ite2 (fun _ => q) (fun c2 => ?_)
      exfalso
      rcases hn with hn | hn
      · refine c (decide_eq_true ?_)
        rw [hlen, hn]
        rfl
      · refine c2 (decide_eq_true ?_)
        rw [hlen]
        omega
    · refine ite2 (fun c => absurd c (by rw [hlen]; exact no n0)) (fun _ => ?_)
      refine ⟨_, rfl, pl, _, rfl, .inl (SqL.of hpl), _, _, rfl, rfl, _, rfl, ?_⟩
      refine ite2 (fun c => absurd (of_decide_eq_true c) (by rw [hlen]; omega)) (fun _ => ?_)
      refine ⟨_, rfl, pl, _, rfl, .inl (SqL.of hpl), _, rfl, by omega, by omega, ?_⟩
      have hi1 := (List.getElem?_eq_some_iff.mp hi0).1
      refine for_range (lo := 0) (n := ((ls.map V.ref).length : Int).toNat) (fun j σ H' => j ≤ i0 ∧ H' = H ∧ ∃ x y, σ = [some (.ref pl), x, y]) ⟨Nat.zero_le _, rfl, none, none, rfl⟩ ?_ (fun σ H' ⟨e, _⟩ => absurd e (by omega))
      rintro j σ H' hj ⟨hji, rfl, x, y, rfl⟩
      have hj2 : j < pss.length := by omega
      obtain ⟨l, hl, hlp⟩ := Sd.Paired.get hps (List.getElem?_eq_getElem hj2)
      have e0 : (0 : Int) + (j : Nat) = ((j : Nat) : Int) := Int.zero_add _
      have hat : atI (ls.map V.ref) ((0 : Int) + (j : Nat)) = some (.ref l) := at_of e0 (by rw [List.getElem?_map, hl]; rfl)
      refine ⟨_, rfl, _, rfl, pl, _, _, _, rfl, rfl, SqL.of hpl, hat, l, _, rfl, .inl (SqL.of hlp), _, _, rfl, rfl, _, rfl, ?_⟩
      refine ite2 (fun _ => q) (fun c40 => ?_)
      have c40' : pss[j].length ≤ 40 := by
        rcases Nat.lt_or_ge 40 pss[j].length with z | z
        · exact absurd (decide_eq_true (by rw [List.length_map]; show (40 : Int) < _; omega)) c40
        · exact z
      refine ⟨_, rfl, _, rfl, pl, _, _, _, rfl, rfl, SqL.of hpl, hat, l, rfl, ⟨_, SqL.of hlp⟩, ?_⟩
      refine for_list (K := K) (xs := pss[j].map V.ref) (fun k σ H2 => H2 = H' ∧ (j = i0 → ∃ k0 p0, pss[j][k0]? = some p0 ∧ k ≤ k0 ∧ Sd.Bad H' j p0 ∧ ∀ (m : Nat) (q : Addr), m < k0 → pss[j][m]? = some q → Sd.Good H' j q) ∧ ∃ y, σ = [some (.ref pl), some (.int ((0 : Int) + (j : Nat))), y])
        ⟨rfl, fun e => ?_, y, rfl⟩ (fun k σ H2 _ h => by rw [h.1]; exact SqL.of hlp) ?_ (fun σ H2 ⟨e, hk, y2, e2⟩ => ⟨?_, e, _, _, e2⟩)
      · subst e
        have ep : pss[j] = ps0 := Option.some.inj ((List.getElem?_eq_getElem hj2).symm.trans hi0)
        rcases hb with hb | ⟨k0, p0, hk, hbb, hgg⟩
        · have := congrArg List.length ep
          omega
        · rw [ep]
          exact ⟨k0, p0, hk, Nat.zero_le _, hbb, hgg⟩
      · rintro k x2 σ H2 hx ⟨rfl, hk, y2, rfl⟩
        rw [List.getElem?_map] at hx
        cases hp : pss[j][k]? with
        | none => rw [hp] at hx; cases hx
        | some p =>
          rw [hp] at hx
          cases hx
          by_cases ej : j = i0
          · obtain ⟨k0, p0, h1, h2, h3, h4⟩ := hk ej
            by_cases ek : k = k0
            · subst ek
              rw [hp] at h1
              cases h1
              refine ⟨_, rfl, _, rfl, p, _, rfl, .inr ⟨?_, q⟩⟩
              rw [e0]
              exact h3
            · refine ⟨_, rfl, _, rfl, p, _, rfl, .inl ⟨?_, rfl, fun _ => ⟨k0, p0, h1, by omega, h3, h4⟩, _, rfl⟩⟩
              rw [e0]
              exact h4 k p (by omega) hp
          · refine ⟨_, rfl, _, rfl, p, _, rfl, .inl ⟨?_, rfl, fun z => absurd z ej, _, rfl⟩⟩
            rw [e0]
            exact (hg j _ (by omega) (List.getElem?_eq_getElem hj2)).2 p (List.mem_of_getElem? hp)
      · by_cases ej : j = i0
        · obtain ⟨k0, p0, h1, h2, _⟩ := hk ej
          have := (List.getElem?_eq_some_iff.mp h1).1
          rw [List.length_map] at h2
          omega
        · omega
end

section
variable {P : Program} {w : World} {K : PySem.W.Frag} {mg : Str → Option Value} {base : Heap} {A_Boxes A_Hand A_Hall A_HandsError A_NoNumber A_NoBox A_NoHand A_NoDeed A_THING_OF A_WITH_A_NUMBER : Addr} {tT tG tH tD : Tok}
abbrev N_Hall__init_ : List Str := ["self", "plans", "many", "hand"]
theorem sc_Hall__init_ : FnScope N_Hall__init_ ["self", "plans"] (defScope s_Hall__init_) := ⟨rfl, rfl, rfl, by decide +kernel, rfl, by decide +kernel, by decide +kernel⟩
theorem ok_Hall__init_ {f : Addr} {fd : FuncData} (F : Fun K "__init__" "Hall.__init__" s_Hall__init_ f fd) (T : (Txt K mg w A_Boxes A_Hand A_Hall A_HandsError A_NoNumber A_NoBox A_NoHand A_NoDeed A_THING_OF A_WITH_A_NUMBER tT tG tH tD))
    (C__need_plans : Sd.Cal P w K mg base (L2.CX P w) 3 "_need_plans" ["plans"] (Sd.spNeedPlans A_NoHand A_NoDeed))
    (C_Boxes : Sd.CalI P w K mg base CX0 1 "Boxes" A_Boxes ["self", "many"] (Sd.spBInit A_Boxes))
    (C_Hand : Sd.CalI P w K mg base CX0 1 "Hand" A_Hand ["self", "hand", "plan", "many"] (Sd.spHandInit A_Hand))
    : FnOk P w K mg base (L2.CX P w) 4 f fd ["self", "plans"] (Sd.spHallInit A_Boxes A_Hand A_Hall A_NoHand A_NoDeed) := by
  refine F.okX sc_Hall__init_ (fun vs H Q E h => ?_) (fun cdv A outer s H vs Q E hr h => ?_)
  · obtain ⟨p, dx, pl, ls, pss, rfl, _⟩ := h
    rfl
  · obtain ⟨p, dx, pl, ls, pss, rfl, hp, hP, hl1, hl2, q⟩ := h
    refine ⟨_, (pss_cons (ps_expr (Sd.pe_fn C__need_plans (hr.mono (by decide)) (passes_call (takes_of rfl rfl rfl rfl) (fun _ _ _ _ h => h)) (pa_cons (pv 1) pa_nil)))
      (pss_cons (ps_set (i := 2) sc_Hall__init_.nd rfl (Or.inr rfl) (pe_callB call_len_seq (by rfl) T.len (by decide +kernel) (pa_cons (pv 1) pa_nil)))
      (pss_cons (ps_fld (pv 0) (Sd.pe_mk C_Boxes (hr.mono (by decide)) pass0 (pa_cons (pe_op op_mul (pe_glob (v := .int 5) rfl T.m_THINGS ⟨_, rfl⟩) (pv 2)) pa_nil)) rfl)
      (pss_cons (ps_fld (pv 0) (pe_lc (own := [("hand", 3)]) (g := gName 3) (by rfl) sc_Hall__init_.nd (pi_range1 rfl T.range (pa_cons (pv 2) pa_nil)) (blkOk_by (own := [("hand", 3)]) (N := N_Hall__init_) (sc := defScope s_Hall__init_) (by decide +kernel)) (fun _ _ _ _ _ => pg_name (i := 3) sc_Hall__init_.nd rfl (Or.inl rfl)) (fun _ _ _ _ _ => pts_nil) (fun _ _ _ _ _ => (Sd.pe_mk C_Hand (hr.mono (by decide)) pass0 (pa_cons (pv 3) (pa_cons (pe_callTy (Sd.call_list_ofK (K := K) rfl) (by rfl) T.list (by decide +kernel) (pa_cons (pe_ix (Sd.ixK (K := K) (r := rIxL) ix_list rfl) (pv 1) (pv 3) (fun _ _ => rfl)) pa_nil)) (pa_cons (pv 2) pa_nil)))))) rfl)
      (pss_cons (ps_fld (pv 0) (pe_lst pa_nil) rfl)
      (pss_cons (ps_fld (pv 0) (pe_lst pa_nil) rfl)
      (pss_one (ps_fld (pv 0) (pe_lst pa_nil) rfl)))))))), ?_⟩
    refine ⟨_, rfl, pl, ls, pss, rfl, hP, hl1, hl2, ?_⟩
    rcases q with ⟨plans, n0, n4, hg, hpp, q⟩ | ⟨hn, q⟩ | ⟨n0, n4, hb, q⟩
    · refine .inl ⟨n0, n4, hg, ?_⟩
      have hlen : (ls.map V.ref).length = pss.length := by rw [List.length_map]; exact Sd.Paired.len hP.2
      have hlenp : pss.length = plans.length := Sd.Paired.len hpp
      refine ⟨_, rfl, pl, _, rfl, .inl (SqL.of hP.1), ?_⟩
      rw [hlen]
      -- the boxes
      refine ⟨_, rfl, _, _, rfl, rfl, .inl ⟨by decide, by decide⟩, fun b dxb nb ndb nx => ⟨b, dxb, _, rfl, by omega, by omega, upd_same, fun bl H1 hbl bt1 hb1 hbl1 => ⟨rfl, ?_⟩⟩⟩
      have s1 : Same H H1 := Sd.made_same nb ndb bt1
      have fbl : H bl = none := Sd.made_free nb ndb hbl
      have hp1 := s1 _ _ hp
      refine ⟨_, rfl, p, A_Hall, dx, _, rfl, hp1, T.cl_Hall, T.n_Hall__boxes, (by show 0 < 1000; decide), ?_⟩
      have npb : b ≠ p := ne_of_none hp nb |>.symm
      have npbl : bl ≠ p := ne_of_none hp fbl |>.symm
      have nbbl : b ≠ bl := ne_of hb1 hbl1 (by intro z; cases z)
      generalize hX : upd H1 p _ = H2
      have b2 : Sd.But p H1 H2 := by rw [← hX]; exact Sd.But.upd
      have hp2 : H2 p = some (.ins A_Hall dx [(("_boxes" : Str), .ref b)]) := by rw [← hX, upd_same]; rfl
      clear hX
      have hb2 := b2 _ _ npb hb1
      have hbl2 := b2 _ _ npbl hbl1
      have b02 : Sd.But p H H2 := (Sd.Same.but s1).trans b2
      have tu02 : Sd.Tu H H2 := fun x xs e => b02 _ _ (ne_of e hp (by intro z; cases z)) e
      have f02 : ∀ {x : Addr}, H2 x = none → H x = none := fun {x} e => by
        cases z : H x with
        | none => rfl
        | some o =>
          have n : x ≠ p := fun y => by rw [y, hp2] at e; cases e
          rw [b02 _ _ n z] at e
          cases e
      -- the hands
      refine ⟨_, rfl, _, rfl, by omega, by omega, fun D hD => ?_⟩
      refine lc_range (lo := 0) (n := ((pss.length : Nat) : Int).toNat) (fun i H' => Same H2 H' ∧ ∃ gs : List Sd.HG, gs.length = i ∧ Sd.Made A_Hand H2 H' D gs pss.length plans)
        ⟨Sd.Same.new hD, [], rfl, ⟨upd_same, fun i x h => (by rw [List.getElem?_nil] at h; cases h), fun x h => (List.not_mem_nil h).elim, fun i j x z n h => (by rw [List.getElem?_nil] at h; cases h)⟩⟩ ?_ ?_
      · rintro i H' hi ⟨s2, gs, hgl, M⟩
        have hi2 : i < pss.length := by omega
        have e0 : (0 : Int) + (i : Nat) = ((i : Nat) : Int) := Int.zero_add _
        obtain ⟨l, hl, hlp⟩ := Sd.Paired.get hP.2 (List.getElem?_eq_getElem hi2)
        obtain ⟨pln, hpln, hPl⟩ := Sd.Paired.get2 hpp (List.getElem?_eq_getElem hi2)
        have npl : pl ≠ p := ne_of hP.1 hp (by intro z; cases z)
        have nl : l ≠ p := ne_of hlp hp (by intro z; cases z)
        have hpl' := s2 _ _ (b02 _ _ npl hP.1)
        have hlp' := s2 _ _ (b02 _ _ nl hlp)
        have tu0 : Sd.Tu H H' := tu02.trans (Sd.Tu.same s2)
        refine ⟨rfl, _, rfl, _, rfl, _, rfl, pl, _, _, _, rfl, rfl, SqL.of hpl', at_of e0 (by rw [List.getElem?_map, hl]; rfl), l, _, rfl, .inl (SqL.of hlp'), fun cp hcp => ⟨_, rfl, ?_⟩⟩
        have s3 := Sd.Same.new (o := .lst (pss[i].map V.ref)) hcp
        have c3 : upd H' cp (.lst (pss[i].map V.ref)) cp = some (.lst (pss[i].map V.ref)) := upd_same
        generalize upd H' cp (.lst (pss[i].map V.ref)) = H3 at s3 c3 ⊢
        refine fun hb dxh nh ndh nxh => ⟨hb, cp, dxh, i, pss.length, pss[i], pln, by rw [e0]; rfl, upd_same, ?_, hPl.tu (tu0.trans ((Sd.Tu.same s3).trans ?_)), by omega, fun g H4 g1 g2 g3 g4 g5 g6 bt4 hH => ⟨rfl, ?_⟩⟩
        · rw [upd_ne (ne_of_none c3 nh), upd_ne (ne_of_none c3 ndh)]
          exact c3
        · intro x xs e
          rw [upd_ne (ne_of_none e nh), upd_ne (ne_of_none e ndh)]
          exact e
        have s4 : Same H3 H4 := Sd.made_same nh ndh bt4
        have ff : ∀ y ∈ g.list, H' y = none := by
          intro y hy
          simp only [Sd.HG.list, List.mem_cons] at hy
          rcases hy with rfl | rfl | rfl | rfl | rfl | hy
          · rw [g1]; exact s3.free nh
          · exact s3.free (Sd.made_free nh ndh g4)
          · exact s3.free (Sd.made_free nh ndh g5)
          · exact s3.free (Sd.made_free nh ndh g6)
          · rw [g2]; exact hcp
          · rw [g3] at hy; cases hy
        have nD : D ∉ g.list := fun mm => by
          have := ff D mm
          rw [M.lst] at this
          cases this
        have epl : plans.getD gs.length [] = pln := by rw [hgl, List.getD_eq_getElem?_getD, hpln]; rfl
        have M2 := M.add s2 (s3.trans s4) (by rw [epl, hgl]; exact hH) ff nD
        rw [g1] at M2
        refine ⟨_, (s3.trans s4) _ _ M.lst, by rw [List.length_map, hgl]; exact small1000 (by omega), ?_, gs ++ [g], by rw [List.length_append, hgl]; rfl, M2⟩
        intro x o e
        rw [upd_ne (ne_of_none e hD)]
        exact ((s2.trans s3).trans s4) _ _ e
      rintro H3 ⟨s3, gs, hgl, M⟩
      have hp3 := s3 _ _ hp2
      have hgl' : gs.length = pss.length := by omega
      refine ⟨_, rfl, p, A_Hall, dx, _, rfl, hp3, T.cl_Hall, T.n_Hall__hands, (by show 1 < 1000; decide), ?_⟩
      generalize hX : upd H3 p _ = H4
      have b4 : Sd.But p H3 H4 := by rw [← hX]; exact Sd.But.upd
      have hp4 : H4 p = some (.ins A_Hall dx [(("_boxes" : Str), .ref b), (("_hands" : Str), .ref D)]) := by rw [← hX, upd_same]; rfl
      clear hX
      refine ⟨(by show 0 ≤ sizeLine; decide), fun rc hrc => ?_⟩
      have s5 := Sd.Same.new (o := .lst []) hrc
      have c5 : upd H4 rc (.lst []) rc = some (.lst []) := upd_same
      generalize upd H4 rc (.lst []) = H5 at s5 c5 ⊢
      have nrc : rc ≠ p := (ne_of_none hp4 hrc).symm
      refine ⟨_, rfl, p, A_Hall, dx, _, rfl, s5 _ _ hp4, T.cl_Hall, T.n_Hall__records, (by show 2 < 1000; decide), ?_⟩
      generalize hX : upd H5 p _ = H6
      have b6 : Sd.But p H5 H6 := by rw [← hX]; exact Sd.But.upd
      have hp6 : H6 p = some (.ins A_Hall dx [(("_boxes" : Str), .ref b), (("_hands" : Str), .ref D), (("_records" : Str), .ref rc)]) := by rw [← hX, upd_same]; rfl
      clear hX
      refine ⟨(by show 0 ≤ sizeLine; decide), fun mr hmr => ?_⟩
      have s7 := Sd.Same.new (o := .lst []) hmr
      have c7 : upd H6 mr (.lst []) mr = some (.lst []) := upd_same
      generalize upd H6 mr (.lst []) = H7 at s7 c7 ⊢
      have nmr : mr ≠ p := (ne_of_none hp6 hmr).symm
      refine ⟨_, rfl, p, A_Hall, dx, _, rfl, s7 _ _ hp6, T.cl_Hall, T.n_Hall__marks, (by show 3 < 1000; decide), ?_⟩
      generalize hX : upd H7 p _ = H8
      have b8 : Sd.But p H7 H8 := by rw [← hX]; exact Sd.But.upd
      have hp8 : H8 p = some (.ins A_Hall dx [(("_boxes" : Str), .ref b), (("_hands" : Str), .ref D), (("_records" : Str), .ref rc), (("_marks" : Str), .ref mr)]) := by rw [← hX, upd_same]; rfl
      clear hX
      refine ⟨(by show 0 ≤ sizeLine; decide), fun tc htc => ?_⟩
      have s9 := Sd.Same.new (o := .lst []) htc
      have c9 : upd H8 tc (.lst []) tc = some (.lst []) := upd_same
      generalize upd H8 tc (.lst []) = H9 at s9 c9 ⊢
      have ntc : tc ≠ p := (ne_of_none hp8 htc).symm
      refine ⟨_, rfl, p, A_Hall, dx, _, rfl, s9 _ _ hp8, T.cl_Hall, T.n_Hall__touches, (by show 4 < 1000; decide), ?_⟩
      generalize hX : upd H9 p _ = H10
      have b10 : Sd.But p H9 H10 := by rw [← hX]; exact Sd.But.upd
      have hp10 : H10 p = some (.ins A_Hall dx (Sd.gfs (.ref b) (.ref D) (.ref rc) (.ref mr) (.ref tc))) := by rw [← hX, upd_same]; rfl
      clear hX
      -- all together
      have b46 : Sd.But p H4 H6 := (Sd.Same.but s5).trans b6
      have b48 : Sd.But p H4 H8 := (b46.trans (Sd.Same.but s7)).trans b8
      have b4a : Sd.But p H4 H10 := (b48.trans (Sd.Same.but s9)).trans b10
      have b3a : Sd.But p H3 H10 := b4.trans b4a
      have b0a : Sd.But p H H10 := ((b02.trans (Sd.Same.but s3)).trans b3a)
      have tu3a : Sd.Tu H3 H10 := fun x xs e => b3a _ _ (ne_of e hp3 (by intro z; cases z)) e
      have fr : ∀ {G : Hp} {x : Addr}, Sd.But p H G → x ≠ p → G x = none → H x = none := fun {G x} bt n e => by
        cases z : H x with
        | none => rfl
        | some o => rw [bt _ _ n z] at e; cases e
      have fr3 : ∀ {G : Hp} {x y : Addr} {o : HO}, Sd.But p H3 G → H3 y = some o → y ≠ p → G x = none → y ≠ x := fun bt e n h => ne_of_none (bt _ _ n e) h
      have b34 : Sd.But p H3 H4 := b4
      have b36 : Sd.But p H3 H6 := b4.trans b46
      have b38 : Sd.But p H3 H8 := b4.trans b48
      have hb3 := s3 _ _ hb2
      have hbl3 := s3 _ _ hbl2
      have nDp : D ≠ p := (ne_of_none hp2 hD).symm
      have n1 : bl ≠ D := ne_of_none hbl2 hD
      have n2 : rc ≠ mr := ne_of_none (b6 _ _ nrc c5) hmr
      have n3 : rc ≠ tc := ne_of_none (b8 _ _ nrc (s7 _ _ (b6 _ _ nrc c5))) htc
      have n4 : mr ≠ tc := ne_of_none (b8 _ _ nmr c7) htc
      refine q ⟨p, b, bl, D, rc, mr, tc, gs⟩ H10 rfl ?_ b0a ?_
      · intro x hx hxp
        simp only [Sd.HallG.list, Sd.HallG.own, List.mem_append, List.mem_cons, List.not_mem_nil, or_false, List.mem_flatMap] at hx
        rcases hx with (rfl | rfl | rfl | rfl | rfl | rfl | rfl) | ⟨y, hy, hxy⟩
        · exact absurd rfl hxp
        · exact nb
        · exact fbl
        · exact f02 hD
        · exact fr ((b02.trans (Sd.Same.but s3)).trans b4) nrc hrc
        · exact fr (((b02.trans (Sd.Same.but s3)).trans b4).trans b46) nmr hmr
        · exact fr (((b02.trans (Sd.Same.but s3)).trans b4).trans b48) ntc htc
        · exact f02 (M.free y hy x (by simp only [Sd.HG.list, List.mem_cons]; exact hxy)).1
      · have hands : ∀ (i : Nat) (x : Sd.HG), gs[i]? = some x → ∀ y ∈ x.list, y ≠ p := fun i x hx y hy z => by
          have := (M.free x (List.mem_of_getElem? hx) y hy).1
          rw [z, hp2] at this
          cases this
        have o3a : Sd.Off [p] H3 H10 := fun c o n e => b3a c o (fun z => n (by rw [z]; exact List.mem_singleton.mpr rfl)) e
        refine ⟨⟨dx, hp10⟩, ⟨dxb, b3a _ _ npb hb3⟩, ?_, ?_, ⟨[], ?_, .nil⟩, ⟨[], ?_, .nil⟩, ⟨[], b10 _ _ ntc c9, .nil⟩, ?_, ?_, ⟨?_, npb.symm⟩, ?_, M.sep⟩
        · have e : H10 bl = _ := b3a _ _ npbl hbl3
          refine e.trans ?_
          show some (HO.lst ((List.replicate _ (0 : Int)).map V.int)) = some (HO.lst ((List.replicate (5 * plans.length) (0 : Int)).map V.int))
          rw [show ((5 : Int) * ((pss.length : Nat) : Int)).toNat = 5 * plans.length by omega]
        · exact b3a _ _ nDp M.lst
        · exact b10 _ _ nrc (s9 _ _ (b8 _ _ nrc (s7 _ _ (b6 _ _ nrc c5))))
        · exact b10 _ _ nmr (s9 _ _ (b8 _ _ nmr c7))
        · show gs.length = plans.length
          omega
        · intro i x hx
          have hi : i < pss.length := by
            have := (List.getElem?_eq_some_iff.mp hx).1
            rw [← hgl']
            exact this
          have e1 : (Sd.HallM.new plans).hand i = Sd.HandM.new pss.length := by
            show (List.replicate plans.length (Sd.HandM.new plans.length)).getD i (Sd.HandM.new 0) = _
            rw [List.getD_eq_getElem?_getD, List.getElem?_replicate, if_pos (by omega), hlenp]
            rfl
          rw [e1]
          have e2 : (Sd.HallM.new plans).many = pss.length := hlenp.symm
          rw [e2]
          exact (M.hand i x hx).off o3a (fun y hy mm => hands i x hx y hy (List.mem_singleton.mp mm)) tu3a
        · have m1 : bl ≠ rc := fr3 b34 hbl3 npbl hrc
          have m2 : bl ≠ mr := fr3 b36 hbl3 npbl hmr
          have m3 : bl ≠ tc := fr3 b38 hbl3 npbl htc
          have m4 : D ≠ rc := fr3 b34 M.lst nDp hrc
          have m5 : D ≠ mr := fr3 b36 M.lst nDp hmr
          have m6 : D ≠ tc := fr3 b38 M.lst nDp htc
          simp only [List.nodup_cons, List.mem_cons, List.not_mem_nil, or_false, not_or, not_false_eq_true, List.nodup_nil, and_true]
          exact ⟨⟨n1, m1, m2, m3⟩, ⟨m4, m5, m6⟩, ⟨n2, n3⟩, n4⟩
        · intro i x hx y hy mm
          have h2 := (M.free x (List.mem_of_getElem? hx) y hy)
          obtain ⟨o, ho⟩ := (M.hand i x hx).tracked y hy
          have hyp := hands i x hx y hy
          simp only [Sd.HallG.own, List.mem_cons, List.not_mem_nil, or_false] at mm
          rcases mm with rfl | rfl | rfl | rfl | rfl | rfl | rfl
          · exact hyp rfl
          · rw [hb2] at h2; cases h2.1
          · rw [hbl2] at h2; cases h2.1
          · exact h2.2 rfl
          · exact fr3 b34 ho hyp hrc rfl
          · exact fr3 b36 ho hyp hmr rfl
          · exact fr3 b38 ho hyp htc rfl
    · exact .inr (.inl ⟨hn, q⟩)
    · exact .inr (.inr ⟨n0, n4, hb, q _ (Same.refl _)⟩)
abbrev N_Hall_records : List Str := ["self"]
theorem sc_Hall_records : FnScope N_Hall_records ["self"] (defScope s_Hall_records) := ⟨rfl, rfl, rfl, by decide +kernel, rfl, by decide +kernel, by decide +kernel⟩
theorem ok_Hall_records {f : Addr} {fd : FuncData} (F : Fun K "records" "Hall.records" s_Hall_records f fd) (T : (Txt K mg w A_Boxes A_Hand A_Hall A_HandsError A_NoNumber A_NoBox A_NoHand A_NoDeed A_THING_OF A_WITH_A_NUMBER tT tG tH tD))
    : FnOk P w K mg base CX0 1 f fd ["self"] (Sd.spRecords A_Boxes A_Hand A_Hall) := by
  refine F.ok sc_Hall_records (fun vs H Q E h => ?_) (fun cdv A outer s H vs Q E hr h => ?_)
  · obtain ⟨g, s, rfl, _⟩ := h
    rfl
  · obtain ⟨g, s, rfl, hA, q⟩ := h
    refine ⟨_, (pss_one (ps_ret (pe_callTy call_list_of (by rfl) T.list (by decide +kernel) (pa_cons (pe_fld (pv 0) rfl) pa_nil)))), ?_⟩
    obtain ⟨dx, hob⟩ := hA.ob
    obtain ⟨vs, hrc, hvs⟩ := hA.rc
    exact ⟨_, rfl, g.ha, A_Hall, dx, _, _, rfl, hob, T.cl_Hall, T.n_Hall__records, rfl, g.rc, _, rfl, .inl (SqL.of hrc), fun l hl => q l vs hl hvs⟩
end

section
variable {P : Program} {w : World} {K : PySem.W.Frag} {mg : Str → Option Value} {base : Heap} {A_Boxes A_Hand A_Hall A_HandsError A_NoNumber A_NoBox A_NoHand A_NoDeed A_THING_OF A_WITH_A_NUMBER : Addr} {tT tG tH tD : Tok}
abbrev N_l_plans : List Str := ["_law_d", "_law_many", "_law_words", "_law_most", "_law_plans_here", "_law_hand", "_law_plan", "_law_k", "_law_word"]
theorem sc_l_plans : FnScope N_l_plans ["_law_d", "_law_many", "_law_words", "_law_most"] (defScope s_l_plans) := ⟨rfl, rfl, rfl, by decide +kernel, rfl, by decide +kernel, by decide +kernel⟩
theorem ok_l_plans {f : Addr} {fd : FuncData} (F : Fun K "_law_plans" "_law_plans" s_l_plans f fd) (T : (Txt K mg w A_Boxes A_Hand A_Hall A_HandsError A_NoNumber A_NoBox A_NoHand A_NoDeed A_THING_OF A_WITH_A_NUMBER tT tG tH tD))
    (C_l_off : Sd.Cal P w K mg base CX0 2 "_law_off" ["_law_d", "_law_most"] (Sd.spOff K))
    (C_l_deed : Sd.Cal P w K mg base CX0 3 "_law_deed" ["_law_d", "_law_word"] (Sd.spLDeed K))
    : FnOk P w K mg base CX0 4 f fd ["_law_d", "_law_many", "_law_words", "_law_most"] (Sd.spPlans K) := by
  refine F.ok sc_l_plans (fun vs H Q E h => ?_) (fun cdv A outer s H vs Q E hr h => ?_)
  · obtain ⟨d, a, wl, ns, ws, m, most, rfl, _⟩ := h
    rfl
  · obtain ⟨d, a, wl, ns, ws, m, most, rfl, D, hS, hwl, nwl, hws, hw0, hw1, hm, hmost, q⟩ := h
    refine ⟨_, (pss_cons (ps_set (i := 4) sc_l_plans.nd rfl (Or.inl rfl) (pe_lst pa_nil))
      (pss_cons (ps_for PassesOwn.never rfl (pi_range1 rfl T.range (pa_cons (pv 1) pa_nil)) (pg_name (i := 5) sc_l_plans.nd rfl (Or.inl rfl))
      (pss_cons (ps_set (i := 6) sc_l_plans.nd rfl (Or.inl rfl) (pe_lst pa_nil))
      (pss_cons (ps_for PassesOwn.never rfl (pi_range1 rfl T.range (pa_cons (Sd.pe_fn C_l_off (hr.mono (by decide)) pass0 (pa_cons (pv 0) (pa_cons (pe_op op_add (pv 3) pe_int) pa_nil))) pa_nil)) (pg_name (i := 7) sc_l_plans.nd rfl (Or.inl rfl))
      (pss_cons (ps_set (i := 8) sc_l_plans.nd rfl (Or.inl rfl) (pe_ix ix_list (pv 2) (Sd.pe_fn C_l_off (hr.mono (by decide)) pass0 (pa_cons (pv 0) (pa_cons (pe_callB call_len_seq (by rfl) T.len (by decide +kernel) (pa_cons (pv 2) pa_nil)) pa_nil))) (fun _ _ => rfl)))
      (C8.pss_cut (ps_if (PW.pt (pw_and (pt_cmpR op_eq (pv 8) pe_str (nomark _)) (pw_and1 (pt_cmpR op_gt (pv 5) pe_int (nomark _)))))
      (pss_one (ps_set (i := 8) sc_l_plans.nd rfl (Or.inl rfl) pe_str))
      pss_nil)
      (pss_one (ps_expr (pe_bm PySem.F.plainAttrs_list PySem.F.slot_list_append PySem.F.type_list_append mt_append (pv 6) (pa_cons (Sd.pe_fn C_l_deed (hr.mono (by decide)) pass0 (pa_cons (pv 0) (pa_cons (pv 8) pa_nil))) pa_nil)))))))
      (pss_one (ps_expr (pe_bm PySem.F.plainAttrs_list PySem.F.slot_list_append PySem.F.type_list_append mt_append (pv 4) (pa_cons (pv 6) pa_nil)))))))
      (pss_one (ps_ret (pv 4))))), ?_⟩
    refine ⟨(by show 0 ≤ sizeLine; decide), fun pl hpl => ?_⟩
    have npd : pl ≠ d := (D.ne hpl).symm
    refine ⟨_, rfl, _, rfl, by omega, by omega, ?_⟩
    refine for_range (lo := 0) (n := ((m : Nat) : Int).toNat) (fun i σ H' => ∃ (ls : List Addr) (pss : List (List Addr)) (plans : List (List Sd.Deed)) (v5 v6 v7 v8 : Option V), σ = [some (.ref d), some (.int m), some (.ref wl), some (.int most), some (.ref pl), v5, v6, v7, v8] ∧
        Sd.DrawnP H H' pl ls pss plans most ∧ plans.length = i ∧ Sd.Dice H' d a ∧ SqL K H' a (ns.map V.int) ∧ Sd.But d H H')
      ⟨[], [], [], none, none, none, none, rfl, ⟨upd_same, .nil, .nil, hpl, (by simp), (by simp), (by simp), (by simp), (by simp), (by simp)⟩, rfl, D.same (Sd.Same.new hpl), (Sd.Same.new hpl).seq hS, Sd.Same.but (Sd.Same.new hpl)⟩ ?_ ?_
    · rintro i σ H1 hi ⟨ls, pss, plans, v5, v6, v7, v8, rfl, R, hlen, D1, S1, b1⟩
      have e0 : (0 : Int) + (i : Nat) = ((i : Nat) : Int) := Int.zero_add _
      have ndl : ∀ {x : Addr} {H' : Hp}, Sd.Dice H' d a → H x = none → x ≠ d := fun D' hx z => by
        obtain ⟨_, hd⟩ := D.some
        rw [z, hd] at hx
        cases hx
      have R_off : ∀ {G G' : Hp} {ls : List Addr} {pss : List (List Addr)} {plans : List (List Sd.Deed)}, Sd.DrawnP H G pl ls pss plans most → Sd.Dice G d a → Sd.But d G G' → Sd.DrawnP H G' pl ls pss plans most := fun R D1 b =>
        R.mono (F := [d]) (fun c o n e => b c o (fun z => n (by rw [z]; exact List.mem_singleton.mpr rfl)) e) (fun x hx mm => by
          rw [List.mem_singleton.mp mm] at hx
          rcases List.mem_cons.mp hx with e | e
          · exact npd e.symm
          · exact ndl D1 (R.fls _ e) rfl) (fun x xs e => b _ _ (fun z => by
            obtain ⟨_, _, _, hd⟩ := D1
            rw [z, hd] at e
            cases e) e)
      refine ⟨(by show 0 ≤ sizeLine; decide), fun p hp => ?_⟩
      have s2 := Sd.Same.new (o := .lst []) hp
      have c2 : upd H1 p (.lst []) p = some (.lst (([] : List Addr).map V.ref)) := upd_same
      have R2 := R.mono (F := []) (Sd.Off.of_same s2) (by simp) (Sd.Tu.same s2)
      have D2 := D1.same s2
      have S2 := s2.seq S1
      have b2 : Sd.But d H _ := b1.trans (Sd.Same.but s2)
      generalize upd H1 p (.lst []) = H2 at s2 c2 R2 D2 S2 b2 ⊢
      have npd2 : p ≠ d := (D1.ne hp).symm
      have fp : H p = none := by
        cases z : H p with
        | none => rfl
        | some o => rw [b1 _ _ npd2 z] at hp; cases hp
      have nppl : p ≠ pl := fun z => by rw [z, R.hpl] at hp; cases hp
      have npls : p ∉ ls := fun mm => by
        have : ∀ {ls : List Addr} {pss : List (List Addr)}, Paired (fun l ps => H1 l = some (.lst (ps.map V.ref))) ls pss → ∀ y ∈ ls, ∃ o, H1 y = some o := by
          intro ls pss hp
          induction hp with
          | nil => intro y hy; cases hy
          | cons r t ih =>
            intro y hy
            rcases List.mem_cons.mp hy with rfl | hy
            · exact ⟨_, r⟩
            · exact ih y hy
        obtain ⟨o, ho⟩ := this R.hls p mm
        rw [hp] at ho
        cases ho
      -- how many
      refine ⟨_, rfl, _, rfl, _, _, rfl, rfl, d, a, ns, _, rfl, D2, S2, by omega, by omega, fun r H3 r0 r1 D3 o3 => ⟨_, rfl, by omega, by omega, ?_⟩⟩
      have b23 : Sd.But d H2 H3 := fun c u n e => by rw [o3 c n]; exact e
      have R3 := R_off R2 D2 b23
      have S3 := D2.seq b23 S2
      refine for_range (lo := 0) (n := r.toNat) (fun j σ H' => ∃ (ps : List Addr) (plan : List Sd.Deed) (v7 v8 : Option V), σ = [some (.ref d), some (.int m), some (.ref wl), some (.int most), some (.ref pl), some (.int ((0 : Int) + (i : Nat))), some (.ref p), v7, v8] ∧
          Sd.DrawnP H H' pl ls pss plans most ∧ Sd.Dice H' d a ∧ SqL K H' a (ns.map V.int) ∧ Sd.But d H H' ∧ H' p = some (.lst (ps.map V.ref)) ∧ Sd.PlanAt H' ps plan ∧ plan.length = j ∧ (∀ x ∈ plan, x.ok) ∧ (∀ x ∈ plan, x = .take → i = 0))
        ⟨[], [], v7, v8, rfl, R3, D3, S3, b2.trans b23, b23 _ _ npd2 c2, .nil, rfl, (by simp), (by simp)⟩ ?_ ?_
      · rintro j σ H4 hj ⟨ps, plan, v7, v8, rfl, R4, D4, S4, b4, c4, P4, hpl4, ok4, tk4⟩
        have hwl4 := b4 _ _ nwl hwl
        refine ⟨_, rfl, _, rfl, _, rfl, wl, _, rfl, .inl (SqL.of hwl4), d, a, ns, _, rfl, D4, S4, by rw [List.length_map]; omega, by rw [List.length_map]; omega, fun r5 H5 r50 r51 D5 o5 => ?_⟩
        have b45 : Sd.But d H4 H5 := fun c u n e => by rw [o5 c n]; exact e
        have R5 := R_off R4 D4 b45
        have S5 := D4.seq b45 S4
        have tu45 : Sd.Tu H4 H5 := fun x xs e => b45 _ _ (fun z => by
            obtain ⟨_, _, _, hd⟩ := D4
            rw [z, hd] at e
            cases e) e
        have hwl5 := b45 _ _ nwl hwl4
        rw [List.length_map] at r51
        obtain ⟨rn, hrn⟩ := Int.eq_ofNat_of_zero_le r50
        have hr5 : rn < ws.length := by omega
        have hwm := hws _ (List.getElem_mem hr5)
        refine ⟨wl, _, _, _, rfl, rfl, SqL.of hwl5, at_of hrn (by rw [List.getElem?_map, List.getElem?_eq_getElem hr5]; rfl), ?_⟩
        generalize ws[rn] = wd at hwm ⊢
        refine ⟨fun σ' H' => H' = H5 ∧ ∃ wd' : Str, wd' ∈ Sd.words10 ∧ (wd' = "take" → i = 0) ∧ σ' = [some (.ref d), some (.int m), some (.ref wl), some (.int most), some (.ref pl), some (.int ((0 : Int) + (i : Nat))), some (.ref p), some (.int ((0 : Int) + (j : Nat))), some (.str wd')], ?_, ?_⟩
        · refine ⟨_, rfl, rfl, _, rfl, ?_⟩
          by_cases ct : wd = "take"
          · rw [ct, decide_eq_true rfl]
            refine ⟨_, rfl, _, _, rfl, rfl, _, rfl, ?_⟩
            refine ite2 (fun c => ?_) (fun c => ?_)
            · exact ⟨rfl, "give", by decide +kernel, fun z => absurd z (by decide +kernel), rfl⟩
            · refine ⟨rfl, "take", by decide +kernel, fun _ => ?_, rfl⟩
              have : ¬ (0 < (0 : Int) + (i : Nat)) := fun z => c (decide_eq_true z)
              omega
          · have : V.str wd = V.str "take" → False := fun z => by
              injection z with z
              exact ct z
            rw [decide_eq_false this]
            exact ⟨rfl, wd, hwm, fun z => absurd z ct, rfl⟩
        · rintro σ' H' ⟨rfl, wd', hw', ht', rfl⟩
          have c5 := b45 _ _ npd2 c4
          refine ⟨_, rfl, .inl ⟨rfl, _, SqL.of c5⟩, _, rfl, _, rfl, d, a, ns, wd', rfl, hw', D5, S5, fun x H6 dd ew hok hx hx6 D6 b56 => ?_⟩
          have c6 := b56 _ _ npd2 c5
          have R6 := R_off R5 D5 b56
          have tu56 : Sd.Tu H' H6 := fun x xs e => b56 _ _ (fun z => by
            obtain ⟨_, _, _, hd⟩ := D5
            rw [z, hd] at e
            cases e) e
          refine ⟨p, _, _, rfl, rfl, c6, ?_, ?_⟩
          · rw [List.length_map, Sd.Paired.len P4, hpl4]
            exact Nat.lt_of_le_of_lt (by omega : j ≤ 100000) (by decide)
          have n6 : Sd.But p H6 (upd H6 p (.lst (ps.map V.ref ++ [.ref x]))) := Sd.But.upd
          have tu6 : Sd.Tu H6 (upd H6 p (.lst (ps.map V.ref ++ [.ref x]))) := Sd.Tu.upd fun xs e => by
            rw [c6] at e
            cases e
          refine ⟨ps ++ [x], plan ++ [dd], _, _, rfl, R6.mono (F := [p]) (Sd.Off.upd (List.mem_singleton.mpr rfl)) (fun y hy mm => ?_) tu6, D6.but n6 npd2.symm, ?_, fun c o n e => ?_, ?_, ?_, ?_, ?_, ?_⟩
          · rw [List.mem_singleton.mp mm] at hy
            rcases List.mem_cons.mp hy with e | e
            · exact nppl e
            · exact npls e
          · exact Sd.SqL.other hS fp (D5.seq b56 S5) n6
          · rw [upd_ne (ne_of_none e fp)]
            exact ((b4.trans b45).trans b56) _ _ n e
          · rw [upd_same, List.map_append]
            rfl
          · exact Sd.Paired.app (P4.tu ((tu45.trans tu56).trans tu6)) (tu6 _ _ hx6)
          · rw [List.length_append, hpl4]
            rfl
          · intro y hy
            rcases List.mem_append.mp hy with hy | hy
            · exact ok4 y hy
            · rw [List.mem_singleton.mp hy]
              exact hok
          · intro y hy hyt
            rcases List.mem_append.mp hy with hy | hy
            · exact tk4 y hy hyt
            · rw [List.mem_singleton.mp hy] at hyt
              rw [hyt] at ew
              exact ht' ew.symm
      · rintro σ H4 ⟨ps, plan, v7, v8, rfl, R4, D4, S4, b4, c4, P4, hpl4, ok4, tk4⟩
        refine ⟨_, rfl, .inl ⟨rfl, _, SqL.of R4.hpl⟩, _, rfl, pl, _, _, rfl, rfl, R4.hpl, ?_, ?_⟩
        · rw [List.length_map, Sd.Paired.len R4.hls, Sd.Paired.len R4.hps, hlen]
          exact Nat.lt_of_le_of_lt (by omega : i ≤ 100) (by decide)
        have R5 := R4.add c4 P4 fp nppl npls (by omega) ok4 (fun x hx ht => by rw [hlen]; exact tk4 x hx ht)
        have n5 : Sd.But pl H4 (upd H4 pl (.lst (ls.map V.ref ++ [.ref p]))) := Sd.But.upd
        refine ⟨ls ++ [p], pss ++ [ps], plans ++ [plan], _, _, _, _, rfl, R5, by rw [List.length_append, hlen]; rfl, D4.but n5 npd.symm, Sd.SqL.other hS hpl S4 n5, fun c o n e => ?_⟩
        rw [upd_ne (ne_of_none e hpl)]
        exact b4 _ _ n e
    · rintro σ H' ⟨ls, pss, plans, v5, v6, v7, v8, rfl, R, hlen, D1, S1, b1⟩
      exact ⟨_, rfl, q pl ls pss plans H' R (by omega) D1 S1 b1⟩
end

section
variable {P : Program} {w : World} {K : PySem.W.Frag} {mg : Str → Option Value} {base : Heap} {A_Boxes A_Hand A_Hall A_HandsError A_NoNumber A_NoBox A_NoHand A_NoDeed A_THING_OF A_WITH_A_NUMBER : Addr} {tT tG tH tD : Tok}
abbrev N_l_refused : List Str := ["_law_deed_here", "_law_hand", "e"]
theorem sc_l_refused : FnScope N_l_refused ["_law_deed_here", "_law_hand"] (defScope s_l_refused) := ⟨rfl, rfl, rfl, by decide +kernel, rfl, by decide +kernel, by decide +kernel⟩
theorem ok_l_refused {f : Addr} {fd : FuncData} (F : Fun K "_law_refused" "_law_refused" s_l_refused f fd) (T : (Txt K mg w A_Boxes A_Hand A_Hall A_HandsError A_NoNumber A_NoBox A_NoHand A_NoDeed A_THING_OF A_WITH_A_NUMBER tT tG tH tD))
    (C_need_deed : Sd.Cal P w K mg base (L2.CX P w) 2 "need_deed" ["deed", "hand"] (Sd.spNeedDeed A_NoDeed))
    : FnOk P w K mg base CX0 3 f fd ["_law_deed_here", "_law_hand"] (Sd.spRefusedD) := by
  refine F.ok sc_l_refused (fun vs H Q E h => ?_) (fun cdv A outer s H vs Q E hr h => ?_)
  · obtain ⟨p, hd, rfl, _⟩ := h
    rfl
  · obtain ⟨p, hd, rfl, hb, q⟩ := h
    refine ⟨_, (pss_cons (ps_try_as (i := 2) (Wout := fun _ _ _ _ => False) rfl rfl sc_l_refused.nd rfl rfl ⟨rfl, by decide, .inl T.m_HandsError⟩ takes0 (fun W pn xe tk _ => (pss_one (ps_expr (Sd.pe_fnS C_need_deed (hr.mono (by decide)) (fun σ => passAt tk σ) (pa_cons (pv 0) (pa_cons (pv 1) pa_nil))))))
      (fun a oe cls d pn hz hf => (pss_one (ps_ret (pe_and (pe_callB (Sd.call_isX hz hf) (by rfl) T.isinstance (by decide +kernel) (pa_cons (pv 2) (pa_cons (pe_glob (v := .ref A_NoDeed) rfl T.m_NoDeed rfl) pa_nil))) (pe_and (pe_callB (Sd.call_isX hz hf) (by rfl) T.isinstance (by decide +kernel) (pa_cons (pv 2) (pa_cons (pe_bltn (v := .ty "ValueError") (u := .type "ValueError") (by rfl) T.ValueError (by decide +kernel) rfl) pa_nil))) (pe_one (pe_not (pe_callB (Sd.call_isXT hz hf) (by rfl) T.isinstance (by decide +kernel) (pa_cons (pv 2) (pa_cons (pe_tup (pa_cons (pe_glob (v := .ref A_NoBox) rfl T.m_NoBox rfl) (pa_cons (pe_glob (v := .ref A_NoNumber) rfl T.m_NoNumber rfl) (pa_cons (pe_glob (v := .ref A_NoHand) rfl T.m_NoHand rfl) pa_nil)))) pa_nil)))))))))))
      (pss_one (ps_ret pe_bl))), ?_⟩
    refine ⟨_, rfl, _, rfl, p, hd, rfl, .inr ⟨hb, ?_⟩⟩
    refine ⟨true, T.r_NoDeed.caught, fun _ e he => ?_, fun z => nomatch z⟩
    refine ⟨_, rfl, _, _, _, true, rfl, rfl, rfl, T.r_NoDeed.ec, .own _, T.r_NoDeed.me, true, rfl, ?_⟩
    refine ⟨_, rfl, _, _, _, true, rfl, rfl, rfl, T.r_NoDeed.ec, .ty _, T.r_NoDeed.ve, true, rfl, ?_⟩
    refine ⟨_, rfl, (by show 3 ≤ sizeLine; decide), fun tp htp => ?_⟩
    exact ⟨_, tp, _, _, false, rfl, rfl, rfl, T.r_NoDeed.ec, upd_same, Sd.clsAll [A_NoBox, A_NoNumber, A_NoHand], Sd.Ref.none (S := A_HandsError) T.r_NoDeed.no, false, rfl, q _ (Sd.Same.new htp)⟩
abbrev N_l_no_hall : List Str := ["_law_plans_here", "e"]
theorem sc_l_no_hall : FnScope N_l_no_hall ["_law_plans_here"] (defScope s_l_no_hall) := ⟨rfl, rfl, rfl, by decide +kernel, rfl, by decide +kernel, by decide +kernel⟩
theorem ok_l_no_hall {f : Addr} {fd : FuncData} (F : Fun K "_law_no_hall" "_law_no_hall" s_l_no_hall f fd) (T : (Txt K mg w A_Boxes A_Hand A_Hall A_HandsError A_NoNumber A_NoBox A_NoHand A_NoDeed A_THING_OF A_WITH_A_NUMBER tT tG tH tD))
    (C_Hall : Sd.CalI P w K mg base (L2.CX P w) 4 "Hall" A_Hall ["self", "plans"] (Sd.spHallInit A_Boxes A_Hand A_Hall A_NoHand A_NoDeed))
    : FnOk P w K mg base CX0 6 f fd ["_law_plans_here"] (Sd.spNoHall) := by
  refine F.ok sc_l_no_hall (fun vs H Q E h => ?_) (fun cdv A outer s H vs Q E hr h => ?_)
  · obtain ⟨pl, ls, pss, rfl, _⟩ := h
    rfl
  · obtain ⟨pl, ls, pss, rfl, hP, h1, h2, n0, n4, hb, q⟩ := h
    refine ⟨_, (pss_cons (ps_try_as (i := 1) (Wout := fun _ _ _ _ => False) rfl rfl sc_l_no_hall.nd rfl rfl ⟨rfl, by decide, .inl T.m_NoDeed⟩ takes0 (fun W pn xe tk _ => (pss_one (ps_expr (Sd.pe_mkS C_Hall (hr.mono (by decide)) (fun σ => passAt tk σ) (pa_cons (pv 0) pa_nil)))))
      (fun a oe cls d pn hz hf => (pss_one (ps_ret (pe_callB (Sd.call_isX hz hf) (by rfl) T.isinstance (by decide +kernel) (pa_cons (pv 1) (pa_cons (pe_glob (v := .ref A_HandsError) rfl T.m_HandsError rfl) pa_nil)))))))
      (pss_one (ps_ret pe_bl))), ?_⟩
    refine ⟨_, rfl, fun b dx nb ndb nx => ⟨b, dx, pl, ls, pss, rfl, upd_same, ?_, h1, h2, .inr (.inr ⟨n0, n4, ?_, fun H1 s1 => ?_⟩)⟩⟩
    · have s0 : ∀ {x : Addr} {o : HO}, H x = some o → upd (upd H dx (.own b)) b (.ins A_Hall dx []) x = some o := fun e => by
        rw [upd_ne (ne_of_none e nb), upd_ne (ne_of_none e ndb)]
        exact e
      exact ⟨s0 hP.1, Sd.Paired.mapM hP.2 fun x _ y e => s0 e⟩
    · have s0 : ∀ {x : Addr} {o : HO}, H x = some o → upd (upd H dx (.own b)) b (.ins A_Hall dx []) x = some o := fun e => by
        rw [upd_ne (ne_of_none e nb), upd_ne (ne_of_none e ndb)]
        exact e
      obtain ⟨i, ps, hi, hbad, hg⟩ := hb
      refine ⟨i, ps, hi, ?_, fun j qs hj hq => ⟨(hg j qs hj hq).1, fun p hp => ?_⟩⟩
      · rcases hbad with hbad | ⟨k, p, hk, ⟨xs, e, hx⟩, hgg⟩
        · exact .inl hbad
        · exact .inr ⟨k, p, hk, ⟨xs, s0 e, hx⟩, fun m q hm hq => by
            obtain ⟨d, e1, e2⟩ := hgg m q hm hq
            exact ⟨d, s0 e1, e2⟩⟩
      · obtain ⟨d, e1, e2⟩ := (hg j qs hj hq).2 p hp
        exact ⟨d, s0 e1, e2⟩
    · refine ⟨true, T.r_NoDeedS.caught, fun _ e he => ?_, fun z => nomatch z⟩
      have s0 : Same H (upd (upd H dx (.own b)) b (.ins A_Hall dx [])) := fun x o e => by
        rw [upd_ne (ne_of_none e nb), upd_ne (ne_of_none e ndb)]
        exact e
      exact ⟨_, rfl, _, _, _, true, rfl, rfl, rfl, T.r_NoDeed.ec, .own _, T.r_NoDeed.su, q _ (s0.trans s1)⟩
abbrev N_l_odd : List Str := ["_law_d", "_law_far", "_law_some"]
theorem sc_l_odd : FnScope N_l_odd ["_law_d"] (defScope s_l_odd) := ⟨rfl, rfl, rfl, by decide +kernel, rfl, by decide +kernel, by decide +kernel⟩
theorem ok_l_odd {f : Addr} {fd : FuncData} (F : Fun K "_law_odd" "_law_odd" s_l_odd f fd) (T : (Txt K mg w A_Boxes A_Hand A_Hall A_HandsError A_NoNumber A_NoBox A_NoHand A_NoDeed A_THING_OF A_WITH_A_NUMBER tT tG tH tD))
    (C_l_off : Sd.Cal P w K mg base CX0 2 "_law_off" ["_law_d", "_law_most"] (Sd.spOff K))
    : FnOk P w K mg base CX0 3 f fd ["_law_d"] (Sd.spOdd K) := by
  refine F.ok sc_l_odd (fun vs H Q E h => ?_) (fun cdv A outer s H vs Q E hr h => ?_)
  · obtain ⟨d, a, ns, rfl, _⟩ := h
    rfl
  · obtain ⟨d, a, ns, rfl, D, hS, q⟩ := h
    refine ⟨_, (pss_cons (ps_set (i := 1) sc_l_odd.nd rfl (Or.inl rfl) (Sd.pe_fn C_l_off (hr.mono (by decide)) pass0 (pa_cons (pv 0) (pa_cons (pe_op op_pow pe_int pe_int) pa_nil))))
      (pss_cons (ps_set (i := 2) sc_l_odd.nd rfl (Or.inl rfl) (pe_lst (pa_cons (pe_tup pa_nil) (pa_cons (pe_tup (pa_cons pe_str pa_nil)) (pa_cons (pe_tup (pa_cons pe_str pa_nil)) (pa_cons (pe_tup (pa_cons pe_str (pa_cons pe_int pa_nil))) (pa_cons (pe_tup (pa_cons pe_str pa_nil)) (pa_cons (pe_tup (pa_cons pe_str pa_nil)) (pa_cons (pe_tup (pa_cons pe_str (pa_cons pe_int pa_nil))) (pa_cons (pe_tup (pa_cons pe_str (pa_cons pe_int pa_nil))) (pa_cons (pe_tup (pa_cons pe_str (pa_cons pe_int pa_nil))) (pa_cons (pe_tup (pa_cons pe_str (pa_cons (pe_un un_neg pe_int) pa_nil))) pa_nil))))))))))))
      (pss_cons (ps_set (i := 2) sc_l_odd.nd rfl (Or.inl rfl) (pe_op op_cat (pv 2) (pe_lst (pa_cons (pe_tup (pa_cons pe_str (pa_cons (pe_op op_add pe_int (pv 1)) pa_nil))) (pa_cons (pe_tup (pa_cons pe_str (pa_cons (pe_op op_sub (pe_op op_sub pe_int pe_int) (pv 1)) pa_nil))) (pa_cons (pe_tup (pa_cons pe_str (pa_cons pe_int (pa_cons pe_int pa_nil)))) (pa_cons (pe_tup (pa_cons pe_str (pa_cons pe_int (pa_cons pe_int pa_nil)))) (pa_cons (pe_tup (pa_cons pe_str (pa_cons pe_int pa_nil))) pa_nil))))))))
      (pss_one (ps_ret (pe_ix ix_list (pv 2) (Sd.pe_fn C_l_off (hr.mono (by decide)) pass0 (pa_cons (pv 0) (pa_cons pe_int pa_nil))) (fun _ _ => rfl))))))), ?_⟩
    refine ⟨_, rfl, _, _, rfl, rfl, ⟨by decide, by decide, by decide⟩, d, a, ns, _, rfl, D, hS, by decide, by decide, fun far H1 f0 f1 D1 o1 => ?_⟩
    have b1 : Sd.But d H H1 := fun c u n e => by rw [o1 c n]; exact e
    have S1 := D.seq b1 hS
    refine ⟨(by show 0 ≤ sizeLine; decide), fun t0 ht0 => ?_⟩
    have s0 := Sd.Same.new (o := .tup []) ht0
    have c0 : upd H1 t0 (.tup []) t0 = some (.tup []) := upd_same
    generalize upd H1 t0 (.tup []) = G0 at s0 c0 ⊢
    refine ⟨(by show 1 ≤ sizeLine; decide), fun t1 ht1 => ?_⟩
    have s1 := Sd.Same.new (o := .tup [.str "ones"]) ht1
    have c1 : upd G0 t1 (.tup [.str "ones"]) t1 = some (.tup [.str "ones"]) := upd_same
    generalize upd G0 t1 (.tup [.str "ones"]) = G1 at s1 c1 ⊢
    refine ⟨(by show 1 ≤ sizeLine; decide), fun t2 ht2 => ?_⟩
    have s2 := Sd.Same.new (o := .tup [.str ""]) ht2
    have c2 : upd G1 t2 (.tup [.str ""]) t2 = some (.tup [.str ""]) := upd_same
    generalize upd G1 t2 (.tup [.str ""]) = G2 at s2 c2 ⊢
    refine ⟨(by show 2 ≤ sizeLine; decide), fun t3 ht3 => ?_⟩
    have s3 := Sd.Same.new (o := .tup [.str "Set", .int 5]) ht3
    have c3 : upd G2 t3 (.tup [.str "Set", .int 5]) t3 = some (.tup [.str "Set", .int 5]) := upd_same
    generalize upd G2 t3 (.tup [.str "Set", .int 5]) = G3 at s3 c3 ⊢
    refine ⟨(by show 1 ≤ sizeLine; decide), fun t4 ht4 => ?_⟩
    have s4 := Sd.Same.new (o := .tup [.str "set"]) ht4
    have c4 : upd G3 t4 (.tup [.str "set"]) t4 = some (.tup [.str "set"]) := upd_same
    generalize upd G3 t4 (.tup [.str "set"]) = G4 at s4 c4 ⊢
    refine ⟨(by show 1 ≤ sizeLine; decide), fun t5 ht5 => ?_⟩
    have s5 := Sd.Same.new (o := .tup [.str "give"]) ht5
    have c5 : upd G4 t5 (.tup [.str "give"]) t5 = some (.tup [.str "give"]) := upd_same
    generalize upd G4 t5 (.tup [.str "give"]) = G5 at s5 c5 ⊢
    refine ⟨(by show 2 ≤ sizeLine; decide), fun t6 ht6 => ?_⟩
    have s6 := Sd.Same.new (o := .tup [.str "one", .int 1]) ht6
    have c6 : upd G5 t6 (.tup [.str "one", .int 1]) t6 = some (.tup [.str "one", .int 1]) := upd_same
    generalize upd G5 t6 (.tup [.str "one", .int 1]) = G6 at s6 c6 ⊢
    refine ⟨(by show 2 ≤ sizeLine; decide), fun t7 ht7 => ?_⟩
    have s7 := Sd.Same.new (o := .tup [.str "take", .int 0]) ht7
    have c7 : upd G6 t7 (.tup [.str "take", .int 0]) t7 = some (.tup [.str "take", .int 0]) := upd_same
    generalize upd G6 t7 (.tup [.str "take", .int 0]) = G7 at s7 c7 ⊢
    refine ⟨(by show 2 ≤ sizeLine; decide), fun t8 ht8 => ?_⟩
    have s8 := Sd.Same.new (o := .tup [.str "set", .int 1000]) ht8
    have c8 : upd G7 t8 (.tup [.str "set", .int 1000]) t8 = some (.tup [.str "set", .int 1000]) := upd_same
    generalize upd G7 t8 (.tup [.str "set", .int 1000]) = G8 at s8 c8 ⊢
    refine ⟨_, rfl, (by show 2 ≤ sizeLine; decide), fun t9 ht9 => ?_⟩
    have s9 := Sd.Same.new (o := .tup [.str "add", .int (-1)]) ht9
    have c9 : upd G8 t9 (.tup [.str "add", .int (-1)]) t9 = some (.tup [.str "add", .int (-1)]) := upd_same
    generalize upd G8 t9 (.tup [.str "add", .int (-1)]) = G9 at s9 c9 ⊢
    refine ⟨(by show 10 ≤ sizeLine; decide), fun l1 hl1 => ?_⟩
    have s15 := Sd.Same.new (o := .lst [.ref t0, .ref t1, .ref t2, .ref t3, .ref t4, .ref t5, .ref t6, .ref t7, .ref t8, .ref t9]) hl1
    have c15 : upd G9 l1 (.lst [.ref t0, .ref t1, .ref t2, .ref t3, .ref t4, .ref t5, .ref t6, .ref t7, .ref t8, .ref t9]) l1 = some (.lst [.ref t0, .ref t1, .ref t2, .ref t3, .ref t4, .ref t5, .ref t6, .ref t7, .ref t8, .ref t9]) := upd_same
    generalize upd G9 l1 (.lst [.ref t0, .ref t1, .ref t2, .ref t3, .ref t4, .ref t5, .ref t6, .ref t7, .ref t8, .ref t9]) = G15 at s15 c15 ⊢
    refine ⟨_, rfl, ?_⟩
    refine ⟨_, rfl, _, _, rfl, rfl, (by show 2 ≤ sizeLine; decide), fun t10 ht10 => ?_⟩
    have s10 := Sd.Same.new (o := .tup [.str "raise", .int (1000 + far)]) ht10
    have c10 : upd G15 t10 (.tup [.str "raise", .int (1000 + far)]) t10 = some (.tup [.str "raise", .int (1000 + far)]) := upd_same
    generalize upd G15 t10 (.tup [.str "raise", .int (1000 + far)]) = G10 at s10 c10 ⊢
    refine ⟨_, _, rfl, rfl, _, rfl, _, _, rfl, rfl, (by show 2 ≤ sizeLine; decide), fun t11 ht11 => ?_⟩
    have s11 := Sd.Same.new (o := .tup [.str "give", .int (0 - 1 - far)]) ht11
    have c11 : upd G10 t11 (.tup [.str "give", .int (0 - 1 - far)]) t11 = some (.tup [.str "give", .int (0 - 1 - far)]) := upd_same
    generalize upd G10 t11 (.tup [.str "give", .int (0 - 1 - far)]) = G11 at s11 c11 ⊢
    refine ⟨(by show 3 ≤ sizeLine; decide), fun t12 ht12 => ?_⟩
    have s12 := Sd.Same.new (o := .tup [.str "add", .int 1, .int 2]) ht12
    have c12 : upd G11 t12 (.tup [.str "add", .int 1, .int 2]) t12 = some (.tup [.str "add", .int 1, .int 2]) := upd_same
    generalize upd G11 t12 (.tup [.str "add", .int 1, .int 2]) = G12 at s12 c12 ⊢
    refine ⟨(by show 3 ≤ sizeLine; decide), fun t13 ht13 => ?_⟩
    have s13 := Sd.Same.new (o := .tup [.str "look", .int 1, .int 2]) ht13
    have c13 : upd G12 t13 (.tup [.str "look", .int 1, .int 2]) t13 = some (.tup [.str "look", .int 1, .int 2]) := upd_same
    generalize upd G12 t13 (.tup [.str "look", .int 1, .int 2]) = G13 at s13 c13 ⊢
    refine ⟨(by show 2 ≤ sizeLine; decide), fun t14 ht14 => ?_⟩
    have s14 := Sd.Same.new (o := .tup [.str "two", .int 3]) ht14
    have c14 : upd G13 t14 (.tup [.str "two", .int 3]) t14 = some (.tup [.str "two", .int 3]) := upd_same
    generalize upd G13 t14 (.tup [.str "two", .int 3]) = G14 at s14 c14 ⊢
    refine ⟨(by show 5 ≤ sizeLine; decide), fun l2 hl2 => ?_⟩
    have s16 := Sd.Same.new (o := .lst [.ref t10, .ref t11, .ref t12, .ref t13, .ref t14]) hl2
    have c16 : upd G14 l2 (.lst [.ref t10, .ref t11, .ref t12, .ref t13, .ref t14]) l2 = some (.lst [.ref t10, .ref t11, .ref t12, .ref t13, .ref t14]) := upd_same
    generalize upd G14 l2 (.lst [.ref t10, .ref t11, .ref t12, .ref t13, .ref t14]) = G16 at s16 c16 ⊢
    refine ⟨l1, l2, _, _, rfl, rfl, ((((((s10.trans s11).trans s12).trans s13).trans s14).trans s16)) _ _ c15, c16, (by show 15 ≤ sizeLine; decide), fun l3 hl3 => ?_⟩
    have s17 := Sd.Same.new (o := .lst ([.ref t0, .ref t1, .ref t2, .ref t3, .ref t4, .ref t5, .ref t6, .ref t7, .ref t8, .ref t9] ++ [.ref t10, .ref t11, .ref t12, .ref t13, .ref t14])) hl3
    have c17 : upd G16 l3 (.lst ([.ref t0, .ref t1, .ref t2, .ref t3, .ref t4, .ref t5, .ref t6, .ref t7, .ref t8, .ref t9] ++ [.ref t10, .ref t11, .ref t12, .ref t13, .ref t14])) l3 = some (.lst [.ref t0, .ref t1, .ref t2, .ref t3, .ref t4, .ref t5, .ref t6, .ref t7, .ref t8, .ref t9, .ref t10, .ref t11, .ref t12, .ref t13, .ref t14]) := upd_same
    generalize upd G16 l3 (.lst ([.ref t0, .ref t1, .ref t2, .ref t3, .ref t4, .ref t5, .ref t6, .ref t7, .ref t8, .ref t9] ++ [.ref t10, .ref t11, .ref t12, .ref t13, .ref t14])) = G17 at s17 c17 ⊢
    have s0b : Same H1 G17 := s0.trans (((((((((((((((((s1.trans s2).trans s3).trans s4).trans s5).trans s6).trans s7).trans s8).trans s9).trans s15).trans s10).trans s11).trans s12).trans s13).trans s14).trans s16).trans s17))
    have all : ∀ x ∈ [V.ref t0, V.ref t1, V.ref t2, V.ref t3, V.ref t4, V.ref t5, V.ref t6, V.ref t7, V.ref t8, V.ref t9, V.ref t10, V.ref t11, V.ref t12, V.ref t13, V.ref t14], ∃ p xs, x = V.ref p ∧ G17 p = some (.tup xs) ∧ ∀ h : Int, Sd.BadV h xs := by
      intro x hx
      simp only [List.mem_cons, List.not_mem_nil, or_false] at hx
      rcases hx with rfl | rfl | rfl | rfl | rfl | rfl | rfl | rfl | rfl | rfl | rfl | rfl | rfl | rfl | rfl
      · exact ⟨t0, _, rfl, (((((((((((((((((s1.trans s2).trans s3).trans s4).trans s5).trans s6).trans s7).trans s8).trans s9).trans s15).trans s10).trans s11).trans s12).trans s13).trans s14).trans s16).trans s17)) _ _ c0, fun h => .inl rfl⟩
      · exact ⟨t1, _, rfl, ((((((((((((((((s2.trans s3).trans s4).trans s5).trans s6).trans s7).trans s8).trans s9).trans s15).trans s10).trans s11).trans s12).trans s13).trans s14).trans s16).trans s17)) _ _ c1, fun h => .inr (.inl ⟨_, _, rfl, by decide +kernel⟩)⟩
      · exact ⟨t2, _, rfl, (((((((((((((((s3.trans s4).trans s5).trans s6).trans s7).trans s8).trans s9).trans s15).trans s10).trans s11).trans s12).trans s13).trans s14).trans s16).trans s17)) _ _ c2, fun h => .inr (.inl ⟨_, _, rfl, by decide +kernel⟩)⟩
      · exact ⟨t3, _, rfl, ((((((((((((((s4.trans s5).trans s6).trans s7).trans s8).trans s9).trans s15).trans s10).trans s11).trans s12).trans s13).trans s14).trans s16).trans s17)) _ _ c3, fun h => .inr (.inl ⟨_, _, rfl, by decide +kernel⟩)⟩
      · exact ⟨t4, _, rfl, (((((((((((((s5.trans s6).trans s7).trans s8).trans s9).trans s15).trans s10).trans s11).trans s12).trans s13).trans s14).trans s16).trans s17)) _ _ c4, fun h => .inr (.inr (.inl ⟨_, _, rfl, by decide +kernel, by decide⟩))⟩
      · exact ⟨t5, _, rfl, ((((((((((((s6.trans s7).trans s8).trans s9).trans s15).trans s10).trans s11).trans s12).trans s13).trans s14).trans s16).trans s17)) _ _ c5, fun h => .inr (.inr (.inl ⟨_, _, rfl, by decide +kernel, by decide⟩))⟩
      · exact ⟨t6, _, rfl, (((((((((((s7.trans s8).trans s9).trans s15).trans s10).trans s11).trans s12).trans s13).trans s14).trans s16).trans s17)) _ _ c6, fun h => .inr (.inr (.inr (.inr (.inl ⟨_, _, rfl, by decide +kernel, (fun z => by cases z)⟩))))⟩
      · exact ⟨t7, _, rfl, ((((((((((s8.trans s9).trans s15).trans s10).trans s11).trans s12).trans s13).trans s14).trans s16).trans s17)) _ _ c7, fun h => .inr (.inr (.inr (.inr (.inl ⟨_, _, rfl, by decide +kernel, (fun z => by cases z)⟩))))⟩
      · exact ⟨t8, _, rfl, (((((((((s9.trans s15).trans s10).trans s11).trans s12).trans s13).trans s14).trans s16).trans s17)) _ _ c8, fun h => .inr (.inr (.inr (.inl ⟨_, _, rfl, by decide +kernel, by omega⟩)))⟩
      · exact ⟨t9, _, rfl, ((((((((s15.trans s10).trans s11).trans s12).trans s13).trans s14).trans s16).trans s17)) _ _ c9, fun h => .inr (.inr (.inr (.inl ⟨_, _, rfl, by decide +kernel, by omega⟩)))⟩
      · exact ⟨t10, _, rfl, ((((((s11.trans s12).trans s13).trans s14).trans s16).trans s17)) _ _ c10, fun h => .inr (.inr (.inr (.inl ⟨_, _, rfl, by decide +kernel, by omega⟩)))⟩
      · exact ⟨t11, _, rfl, (((((s12.trans s13).trans s14).trans s16).trans s17)) _ _ c11, fun h => .inr (.inr (.inr (.inl ⟨_, _, rfl, by decide +kernel, by omega⟩)))⟩
      · exact ⟨t12, _, rfl, ((((s13.trans s14).trans s16).trans s17)) _ _ c12, fun h => .inr (.inr (.inl ⟨_, _, rfl, by decide +kernel, (by show 2 ≠ 1; decide)⟩))⟩
      · exact ⟨t13, _, rfl, (((s14.trans s16).trans s17)) _ _ c13, fun h => .inr (.inr (.inr (.inr (.inl ⟨_, _, rfl, by decide +kernel, (fun z => by cases z)⟩))))⟩
      · exact ⟨t14, _, rfl, ((s16.trans s17)) _ _ c14, fun h => .inr (.inl ⟨_, _, rfl, by decide +kernel⟩)⟩

    have D17 := D1.same s0b
    refine ⟨_, rfl, _, rfl, d, a, ns, 15, rfl, D17, s0b.seq S1, by decide, by decide, fun r H2 r0 r1 D2 o2 => ?_⟩
    have b2 : Sd.But d G17 H2 := fun c u n e => by rw [o2 c n]; exact e
    have tu2 : Sd.Tu G17 H2 := fun x xs e => b2 _ _ (fun z => by
      obtain ⟨_, _, _, hd⟩ := D17
      rw [z, hd] at e
      cases e) e
    obtain ⟨rn, hrn⟩ := Int.eq_ofNat_of_zero_le r0
    obtain ⟨x, hx⟩ : ∃ x, [V.ref t0, V.ref t1, V.ref t2, V.ref t3, V.ref t4, V.ref t5, V.ref t6, V.ref t7, V.ref t8, V.ref t9, V.ref t10, V.ref t11, V.ref t12, V.ref t13, V.ref t14][rn]? = some x :=
      ⟨_, List.getElem?_eq_getElem (by show rn < 15; omega)⟩
    obtain ⟨p, xs, rfl, hp, hb⟩ := all x (List.mem_of_getElem? hx)
    have nl3 : l3 ≠ d := (D1.same (s0.trans (((((((((((((((s1.trans s2).trans s3).trans s4).trans s5).trans s6).trans s7).trans s8).trans s9).trans s15).trans s10).trans s11).trans s12).trans s13).trans s14).trans s16))).ne hl3 |>.symm
    refine ⟨l3, _, _, _, rfl, rfl, SqL.of (b2 _ _ nl3 c17), at_of hrn hx, ?_⟩
    exact q p H2 ⟨xs, tu2 _ _ hp, hb⟩ D2 ((b1.trans (Sd.Same.but s0b)).trans b2)
abbrev N_law : List Str := ["_law_script", "_law_d", "_law_words", "_law_hand", "_law_word", "_law_deed_here", "_law_odd_here", "_law_plans_here", "_law_at", "_law_wrong", "_law_long", "_law_plan"]
theorem sc_law : FnScope N_law ["_law_script"] (defScope s_law) := ⟨rfl, rfl, rfl, by decide +kernel, rfl, by decide +kernel, by decide +kernel⟩
theorem ok_law {f : Addr} {fd : FuncData} (F : Fun K "law" "law" s_law f fd) (T : (Txt K mg w A_Boxes A_Hand A_Hall A_HandsError A_NoNumber A_NoBox A_NoHand A_NoDeed A_THING_OF A_WITH_A_NUMBER tT tG tH tD))
    (C_l_cell : Sd.Cal P w K mg base CX0 1 "_law_cell" ["_law_script", "_law_k"] (Sd.spCell K))
    (C_l_dice : Sd.Cal P w K mg base CX0 2 "_law_dice" ["_law_script", "_law_k"] (Sd.spDice K))
    (C_l_deed : Sd.Cal P w K mg base CX0 3 "_law_deed" ["_law_d", "_law_word"] (Sd.spLDeed K))
    (C_need_deed : Sd.Cal P w K mg base (L2.CX P w) 2 "need_deed" ["deed", "hand"] (Sd.spNeedDeed A_NoDeed))
    (C_l_refused : Sd.Cal P w K mg base CX0 3 "_law_refused" ["_law_deed_here", "_law_hand"] (Sd.spRefusedD))
    (C_l_odd : Sd.Cal P w K mg base CX0 3 "_law_odd" ["_law_d"] (Sd.spOdd K))
    (C_l_plans : Sd.Cal P w K mg base CX0 4 "_law_plans" ["_law_d", "_law_many", "_law_words", "_law_most"] (Sd.spPlans K))
    (C_l_no_hall : Sd.Cal P w K mg base CX0 6 "_law_no_hall" ["_law_plans_here"] (Sd.spNoHall))
    (C_Hall : Sd.CalI P w K mg base (L2.CX P w) 4 "Hall" A_Hall ["self", "plans"] (Sd.spHallInit A_Boxes A_Hand A_Hall A_NoHand A_NoDeed))
    (C_Hall_records : Sd.CalM P w K mg base CX0 1 A_Hall "records" ["self"] (Sd.spRecords A_Boxes A_Hand A_Hall))
    : FnOk P w K mg base CX0 7 f fd ["_law_script"] (spLaw K) := by
  refine F.ok sc_law (fun vs H Q E h => ?_) (fun cdv A outer s H vs Q E hr h => ?_)
  · obtain ⟨a, ns, rfl, _⟩ := h
    rfl
  · obtain ⟨a, ns, rfl, hS, hlen, q⟩ := h
    refine ⟨_, (pss_cons (ps_set (i := 1) sc_law.nd rfl (Or.inl rfl) (Sd.pe_fn C_l_dice (hr.mono (by decide)) pass0 (pa_cons (pv 0) (pa_cons pe_int pa_nil))))
      (pss_cons (ps_set (i := 2) sc_law.nd rfl (Or.inl rfl) (pe_lst (pa_cons pe_str (pa_cons pe_str (pa_cons pe_str (pa_cons pe_str (pa_cons pe_str (pa_cons pe_str (pa_cons pe_str (pa_cons pe_str (pa_cons pe_str (pa_cons pe_str pa_nil))))))))))))
      (pss_cons (ps_set (i := 3) sc_law.nd rfl (Or.inl rfl) (pe_op op_mod (pe_callB call_abs (by rfl) T.abs (by decide +kernel) (pa_cons (Sd.pe_fn C_l_cell (hr.mono (by decide)) pass0 (pa_cons (pv 0) (pa_cons pe_int pa_nil))) pa_nil)) pe_int))
      (pss_cons (ps_for PassesOwn.never rfl (pi_list (pv 2)) (pg_name (i := 4) sc_law.nd rfl (Or.inl rfl))
      (pss_cons (ps_set (i := 5) sc_law.nd rfl (Or.inl rfl) (Sd.pe_fn C_l_deed (hr.mono (by decide)) pass0 (pa_cons (pv 1) (pa_cons (pv 4) pa_nil))))
      (pss_one (ps_if (PW.pt (pw_and (pt_cmpR op_eq (pv 4) pe_str (nomark _)) (pw_and1 (pt_cmpR op_gt (pv 3) pe_int (nomark _)))))
      (pss_one (ps_if (pt_not (pt_val (Sd.pe_fn C_l_refused (hr.mono (by decide)) pass0 (pa_cons (pv 5) (pa_cons (pv 3) pa_nil)))))
      (pss_one (ps_ret pe_bl))
      pss_nil))
      (pss_one (ps_if (pt_cmpR op_notN (Sd.pe_fn C_need_deed (hr.mono (by decide)) passL (pa_cons (pv 5) (pa_cons (pv 3) pa_nil))) pe_non (nomark _))
      (pss_one (ps_ret pe_bl))
      pss_nil))))))
      (pss_cons (ps_set (i := 6) sc_law.nd rfl (Or.inl rfl) (Sd.pe_fn C_l_odd (hr.mono (by decide)) pass0 (pa_cons (pv 1) pa_nil)))
      (pss_cons (ps_if (pt_not (pt_val (Sd.pe_fn C_l_refused (hr.mono (by decide)) pass0 (pa_cons (pv 6) (pa_cons (pv 3) pa_nil)))))
      (pss_one (ps_ret pe_bl))
      pss_nil)
      (pss_cons (ps_set (i := 7) sc_law.nd rfl (Or.inl rfl) (Sd.pe_fn C_l_plans (hr.mono (by decide)) pass0 (pa_cons (pv 1) (pa_cons pe_int (pa_cons (pv 2) (pa_cons pe_int pa_nil))))))
      (pss_cons (ps_set (i := 8) sc_law.nd rfl (Or.inl rfl) (pe_op op_mod (pe_callB call_abs (by rfl) T.abs (by decide +kernel) (pa_cons (Sd.pe_fn C_l_cell (hr.mono (by decide)) pass0 (pa_cons (pv 0) (pa_cons pe_int pa_nil))) pa_nil)) (pe_op op_add (pe_callB call_len_seq (by rfl) T.len (by decide +kernel) (pa_cons (pe_ix ix_list (pv 7) (pv 3) (fun _ _ => rfl)) pa_nil)) pe_int)))
      (pss_cons (ps_setLc (i := 9) (own := [("_law_plan", 11)]) (g := gName 11) (by rfl) sc_law.nd rfl rfl (sw_true rfl rfl rfl (by decide +kernel)) (pi_list (pv 7)) (blkOk_by (own := [("_law_plan", 11)]) (N := N_law) (sc := defScope s_law) (by decide +kernel)) (fun _ _ _ _ _ => pg_name (i := 11) sc_law.nd rfl (Or.inl rfl)) (fun _ _ _ _ _ => pts_nil) (fun _ _ _ _ _ => (pe_callTy (Sd.call_list_ofK (K := K) rfl) (by rfl) T.list (by decide +kernel) (pa_cons (pv 11) pa_nil))))
      (pss_cons (ps_asg (pe_op op_cat (pe_op op_cat (pe_slice sl_list (pe_ix ix_list (pv 9) (pv 3) (fun _ _ => rfl)) po_none (po_some (pv 8))) (pe_lst (pa_cons (pv 6) pa_nil))) (pe_slice sl_list (pe_ix ix_list (pv 9) (pv 3) (fun _ _ => rfl)) (po_some (pv 8)) po_none)) (pg_sub (pv 9) (pv 3) set_list))
      (pss_cons (ps_setLc (i := 10) (own := [("_law_plan", 11)]) (g := gName 11) (by rfl) sc_law.nd rfl rfl (sw_true rfl rfl rfl (by decide +kernel)) (pi_list (pv 7)) (blkOk_by (own := [("_law_plan", 11)]) (N := N_law) (sc := defScope s_law) (by decide +kernel)) (fun _ _ _ _ _ => pg_name (i := 11) sc_law.nd rfl (Or.inl rfl)) (fun _ _ _ _ _ => pts_nil) (fun _ _ _ _ _ => (pe_callTy (Sd.call_list_ofK (K := K) rfl) (by rfl) T.list (by decide +kernel) (pa_cons (pv 11) pa_nil))))
      (pss_cons (ps_asg (pe_op op_rep (pe_lst (pa_cons (Sd.pe_fn C_l_deed (hr.mono (by decide)) pass0 (pa_cons (pv 1) (pa_cons pe_str pa_nil))) pa_nil)) pe_int) (pg_sub (pv 10) (pv 3) set_list))
      (pss_cons (ps_if (PW.pt (pw_or (pt_not (pt_val (Sd.pe_fn C_l_no_hall (hr.mono (by decide)) pass0 (pa_cons (pv 9) pa_nil)))) (pw_or1 (pt_not (pt_val (Sd.pe_fn C_l_no_hall (hr.mono (by decide)) pass0 (pa_cons (pv 10) pa_nil)))))))
      (pss_one (ps_ret pe_bl))
      pss_nil)
      (pss_cons (ps_asg (pe_slice sl_list (pe_ix ix_list (pv 10) (pv 3) (fun _ _ => rfl)) (po_some pe_int) po_none) (pg_sub (pv 10) (pv 3) set_list))
      (pss_one (ps_ret (pe_and (pe_cmpR (op_eqD hr.units) (Sd.pe_mt0 C_Hall_records (hr.mono (by decide)) pass0 (Sd.pe_mk C_Hall (hr.mono (by decide)) passL (pa_cons (pv 10) pa_nil))) (pe_lst pa_nil) (nomark _)) (pe_one (pe_cmpR (op_eqD hr.units) (Sd.pe_mt0 C_Hall_records (hr.mono (by decide)) pass0 (Sd.pe_mk C_Hall (hr.mono (by decide)) passL (pa_cons (pv 7) pa_nil))) (pe_lst pa_nil) (nomark _)))))))))))))))))))), ?_⟩
    refine ⟨_, rfl, a, ns, 0, rfl, by decide, hS, fun d H1 hd s1 b1 D1 o1 => ?_⟩
    have S1 : SqL K H1 a (ns.map V.int) := s1.seq hS
    refine ⟨(by show 10 ≤ sizeLine; decide), fun wl hwl => ?_⟩
    have s2 := Sd.Same.new (o := .lst (Sd.words10.map V.str)) hwl
    have c2 : upd H1 wl (.lst (Sd.words10.map V.str)) wl = some (.lst (Sd.words10.map V.str)) := upd_same
    have D2 := D1.same s2
    have S2 := s2.seq S1
    have nwl : wl ≠ d := (D1.ne hwl).symm
    generalize hX : upd H1 wl _ = H2
    have hX' : upd H1 wl (.lst (Sd.words10.map V.str)) = H2 := hX
    rw [hX'] at s2 c2 D2 S2
    clear hX hX'
    refine ⟨_, rfl, a, ns, 1, rfl, by decide, S2, fun v => ⟨v, rfl, _, _, rfl, rfl, (by show (0 : Int) < 4; decide), ?_⟩⟩
    dsimp only
    have hN0 : 0 ≤ (if v < 0 then -v else v) % 4 := Int.emod_nonneg _ (by decide)
    have hN1 : (if v < 0 then -v else v) % 4 < 4 := Int.emod_lt_of_pos _ (by decide)
    obtain ⟨h, hh⟩ := Int.eq_ofNat_of_zero_le hN0
    rw [hh] at hN1 ⊢
    have h4 : h < 4 := by omega
    clear hh
    -- each kind of deed
    refine ⟨_, rfl, wl, rfl, ⟨_, SqL.of c2⟩, ?_⟩
    refine for_list (K := K) (xs := Sd.words10.map V.str) (fun i σ H' => ∃ (x y : Option V), σ = [some (.ref a), some (.ref d), some (.ref wl), some (.int h), x, y, none, none, none, none, none, none] ∧ Sd.Dice H' d a ∧ SqL K H' a (ns.map V.int) ∧ H' wl = some (.lst (Sd.words10.map V.str)))
      ⟨none, none, rfl, D2, S2, c2⟩ (fun i σ H' _ h => SqL.of h.choose_spec.choose_spec.2.2.2) ?_ ?_
    · rintro i x σ H' hx ⟨x1, y1, rfl, D3, S3, c3⟩
      obtain ⟨wd, hwd, rfl⟩ := Sd.strs_got hx
      have hm : wd ∈ Sd.words10 := List.mem_of_getElem? hwd
      refine ⟨_, rfl, _, rfl, d, a, ns, wd, rfl, hm, D3, S3, fun p H4 dd ew ok hp hp4 D4 bt => ?_⟩
      have S4 := D3.seq bt S3
      have c4 := bt _ _ nwl c3
      refine ⟨_, rfl, rfl, _, rfl, ?_⟩
      by_cases ct : wd = "take"
      · have edd : dd = .take := by
          exact dd.word_take (ew.trans ct)
        rw [ct, decide_eq_true rfl]
        refine ⟨_, rfl, _, _, rfl, rfl, _, rfl, ?_⟩
        refine ite2 (fun c => ?_) (fun c => ?_)
        · have hc := of_decide_eq_true c
          refine ⟨_, rfl, _, rfl, p, h, rfl, ⟨_, hp4, ?_⟩, fun H5 s5 => ⟨true, rfl, _, _, rfl, D4.same s5, s5.seq S4, s5 _ _ c4⟩⟩
          rw [edd]
          exact .inr (.inr (.inr (.inr (.inr ⟨rfl, by omega⟩))))
        · have hc : ¬ ((0 : Int) < h) := fun z => c (decide_eq_true z)
          refine ⟨_, rfl, _, rfl, p, h, rfl, .inl ⟨⟨dd, hp4, ok, fun _ => by omega⟩, rfl, _, rfl, ?_⟩⟩
          exact ⟨_, _, rfl, D4, S4, c4⟩
      · have : V.str wd = V.str "take" → False := fun z => by
          injection z with z
          exact ct z
        rw [decide_eq_false this]
        refine ⟨_, rfl, _, rfl, p, h, rfl, .inl ⟨⟨dd, hp4, ok, fun z => ?_⟩, rfl, _, rfl, ?_⟩⟩
        · rw [z] at ew
          exact absurd ew.symm ct
        · exact ⟨_, _, rfl, D4, S4, c4⟩
    rintro σ H3 ⟨x, y, rfl, D3, S3, c3⟩
    -- an odd one
    refine ⟨_, rfl, d, a, ns, rfl, D3, S3, fun po H4 hpo D4 b34 => ?_⟩
    obtain ⟨xo, hxo, hbad⟩ := hpo
    have S4 := D3.seq b34 S3
    have c4 := b34 _ _ nwl c3
    refine ⟨_, rfl, _, rfl, po, h, rfl, ⟨xo, hxo, hbad _⟩, fun H5 s5 => ⟨true, rfl, ?_⟩⟩
    have D5 := D4.same s5
    have S5 := s5.seq S4
    have c5 := s5 _ _ c4
    have hxo5 := s5 _ _ hxo
    -- plans
    refine ⟨_, rfl, _, rfl, d, a, wl, ns, Sd.words10, 4, 6, rfl, D5, S5, c5, nwl, fun w hw => hw, by decide, by decide, by decide, by decide, fun pl ls pss plans H6 R hlp D6 S6 b56 => ?_⟩
    have tuD : ∀ {G G' : Hp}, Sd.Dice G d a → Sd.But d G G' → Sd.Tu G G' := fun D b x xs e => b _ _ (fun z => by
      obtain ⟨_, _, _, hd⟩ := D
      rw [z, hd] at e
      cases e) e
    have hxo6 := tuD D5 b56 _ _ hxo5
    have lpss : pss.length = 4 := (Sd.Paired.len R.hps).trans hlp
    have lls : ls.length = 4 := (Sd.Paired.len R.hls).trans lpss
    have hpssh : pss[h]? = some pss[h] := List.getElem?_eq_getElem (by omega)
    obtain ⟨lh, hlh, hlhp⟩ := Sd.Paired.get R.hls hpssh
    have atl : atI (ls.map V.ref) (h : Int) = some (.ref lh) := at_of rfl (by rw [List.getElem?_map, hlh]; rfl)
    refine ⟨_, rfl, a, ns, 2, rfl, by decide, S6, fun v2 => ⟨v2, rfl, ?_⟩⟩
    refine ⟨_, rfl, _, rfl, pl, _, _, _, rfl, rfl, SqL.of R.hpl, atl, lh, _, rfl, .inl (SqL.of hlhp), _, _, rfl, rfl, _, _, rfl, rfl, ?_, ?_⟩
    · omega
    dsimp only
    rw [List.length_map]
    have hA0 : 0 ≤ (if v2 < 0 then -v2 else v2) % ((pss[h].length : Nat) + 1 : Int) := Int.emod_nonneg _ (by omega)
    have hA1 : (if v2 < 0 then -v2 else v2) % ((pss[h].length : Nat) + 1 : Int) < (pss[h].length : Nat) + 1 := Int.emod_lt_of_pos _ (by omega)
    obtain ⟨at_, hat⟩ := Int.eq_ofNat_of_zero_le hA0
    rw [hat] at hA1 ⊢
    clear hat
    have hgood : ∀ {H' : Hp}, Sd.Tu H6 H' → ∀ (i : Nat) (ps : List Addr), pss[i]? = some ps → Sd.GoodPlan H' i ps := fun t i ps hi => (R.good (by decide) i ps hi).tu t
    have short : ∀ ps ∈ pss, ps.length ≤ 100000 := fun ps hps => by
      obtain ⟨i, hi, e⟩ := List.mem_iff_getElem.mp hps
      have := (R.good (by decide) i ps (by rw [List.getElem?_eq_getElem hi, e])).1
      omega
    -- the wrong plans
    have plHc : H6 pl = some (.lst (ls.map V.ref)) := R.hpl
    have lsHc := R.hls
    refine ⟨_, rfl, pl, rfl, ⟨_, SqL.of plHc⟩, fun D hD => ?_⟩
    refine lc_list (K := K) (xs := ls.map V.ref) (fun i H' => ∃ cs : List Addr, cs.length = i ∧ Sd.Copied H6 H' D cs (pss.take i)) ⟨[], rfl, Sd.Same.new hD, upd_same, .nil, by simp, by simp, hD⟩ (fun i H' _ h => SqL.of (h.choose_spec.2.st _ _ plHc)) ?_ ?_
    · rintro i x H' hx ⟨cs, hcl, C⟩
      rw [List.getElem?_map] at hx
      cases hl : ls[i]? with
      | none => rw [hl] at hx; cases hx
      | some l =>
        rw [hl] at hx
        cases hx
        obtain ⟨ps, hps, hlp2⟩ := Sd.Paired.get2 lsHc hl
        refine ⟨rfl, _, rfl, l, _, rfl, .inl (SqL.of (C.st _ _ hlp2)), fun c hc => ?_⟩
        have nc : c ≠ D := fun z => by rw [z, C.hD] at hc; cases hc
        refine ⟨_, (by rw [upd_ne nc.symm]; exact C.hD), ?_, cs ++ [c], by rw [List.length_append, hcl]; rfl, ?_⟩
        · rw [List.length_map, hcl]
          have := (List.getElem?_eq_some_iff.mp hl).1
          exact small1000 (by omega)
        · have e : pss.take (i + 1) = pss.take i ++ [ps] := by
            obtain ⟨h1, h2⟩ := List.getElem?_eq_some_iff.mp hps
            rw [List.take_succ_eq_append_getElem h1, h2]
          rw [e]
          exact C.add hc
    rintro H7 ⟨cs, hcl, C7⟩
    rw [List.length_map, lls, ← lpss, List.take_length] at C7
    rw [List.length_map, lls] at hcl
    have hcsh : cs[h]? = some cs[h] := List.getElem?_eq_getElem (by omega)
    obtain ⟨ps', hps', hch⟩ := Sd.Paired.get2 C7.hcs hcsh
    have eps : ps' = pss[h] := by rw [hpssh] at hps'; exact (Option.some.inj hps').symm
    subst eps
    have atc : atI (cs.map V.ref) (h : Int) = some (.ref cs[h]) := at_of rfl (by rw [List.getElem?_map, hcsh]; rfl)
    have xo7 := C7.st _ _ hxo6
    have cutA : cutV (pss[h].map V.ref) none (some (at_ : Int)) = (pss[h].take at_).map V.ref := by
      rw [List.map_take]
      exact Sd.cut_take (by rw [List.length_map]; omega)
    have cutB : cutV (pss[h].map V.ref) (some (at_ : Int)) none = (pss[h].drop at_).map V.ref := by
      rw [List.map_drop]
      exact Sd.cut_drop
    have lh6 : pss[h].length ≤ 40 := (R.good (by decide) h _ hpssh).1
    -- slices
    refine ⟨_, rfl, _, rfl, D, _, _, _, rfl, rfl, SqL.of C7.hD, atc, _, rfl, _, rfl, cs[h], _, rfl, SqL.of hch, fun u1 hu1 => ?_⟩
    rw [cutA]
    have t1 := Sd.Same.new (o := .lst ((pss[h].take at_).map V.ref)) hu1
    have e1 : upd H7 u1 (.lst ((pss[h].take at_).map V.ref)) u1 = some (.lst ((pss[h].take at_).map V.ref)) := upd_same
    generalize upd H7 u1 (.lst ((pss[h].take at_).map V.ref)) = G1 at t1 e1 ⊢
    refine ⟨_, rfl, (by show 1 ≤ sizeLine; decide), fun u2 hu2 => ?_⟩
    have t2 := Sd.Same.new (o := .lst [.ref po]) hu2
    have e2 : upd G1 u2 (.lst [.ref po]) u2 = some (.lst [.ref po]) := upd_same
    generalize upd G1 u2 (.lst [.ref po]) = G2 at t2 e2 ⊢
    refine ⟨u1, u2, _, _, rfl, rfl, t2 _ _ e1, e2, ?_, fun u3 hu3 => ?_⟩
    · rw [List.length_map, List.length_take]
      exact Nat.le_trans (by show _ + 1 ≤ 100; omega) (by decide : 100 ≤ sizeLine)
    have t3 := Sd.Same.new (o := .lst ((pss[h].take at_).map V.ref ++ [.ref po])) hu3
    have e3 : upd G2 u3 (.lst ((pss[h].take at_).map V.ref ++ [.ref po])) u3 = some (.lst ((pss[h].take at_).map V.ref ++ [.ref po])) := upd_same
    generalize upd G2 u3 (.lst ((pss[h].take at_).map V.ref ++ [.ref po])) = G3 at t3 e3 ⊢
    have t13 := (t1.trans t2).trans t3
    refine ⟨_, rfl, _, rfl, D, _, _, _, rfl, rfl, SqL.of (t13 _ _ C7.hD), atc, _, rfl, _, rfl, ?_⟩
    dsimp only [tNoPart]
    refine ⟨cs[h], _, rfl, SqL.of (t13 _ _ hch), fun u4 hu4 => ?_⟩
    rw [cutB]
    have t4 := Sd.Same.new (o := .lst ((pss[h].drop at_).map V.ref)) hu4
    have e4 : upd G3 u4 (.lst ((pss[h].drop at_).map V.ref)) u4 = some (.lst ((pss[h].drop at_).map V.ref)) := upd_same
    generalize upd G3 u4 (.lst ((pss[h].drop at_).map V.ref)) = G4 at t4 e4 ⊢
    refine ⟨u3, u4, _, _, rfl, rfl, t4 _ _ e3, e4, ?_, fun u5 hu5 => ?_⟩
    · rw [List.length_append, List.length_map, List.length_map, List.length_take, List.length_drop]
      exact Nat.le_trans (by show _ + 1 + _ ≤ 100; omega) (by decide : 100 ≤ sizeLine)
    have t5 := Sd.Same.new (o := .lst ((pss[h].take at_).map V.ref ++ [.ref po] ++ (pss[h].drop at_).map V.ref)) hu5
    have e5 : upd G4 u5 (.lst ((pss[h].take at_).map V.ref ++ [.ref po] ++ (pss[h].drop at_).map V.ref)) u5 = some (.lst ((pss[h].take at_ ++ po :: pss[h].drop at_).map V.ref)) := by
      rw [upd_same, List.map_append, List.map_cons, List.append_assoc]
      rfl
    generalize upd G4 u5 (.lst ((pss[h].take at_).map V.ref ++ [.ref po] ++ (pss[h].drop at_).map V.ref)) = G5 at t5 e5 ⊢
    have t15 := ((t13.trans t4).trans t5)
    have D5' := t15 _ _ C7.hD
    refine ⟨_, rfl, _, rfl, D, _, _, h, rfl, rfl, D5', Sd.ixN_nat (by rw [List.length_map]; omega), ?_⟩
    rw [← List.map_set]
    have nu5 : u5 ≠ D := (ne_of_none ((t13.trans t4) _ _ C7.hD) hu5).symm
    have cs5 : ∀ c ∈ cs, c ≠ D := fun c hc => (C7.fr c hc).2
    have W8 : Sd.PlansAt (upd G5 D (.lst ((cs.set h u5).map V.ref))) D (cs.set h u5) (pss.set h (pss[h].take at_ ++ po :: pss[h].drop at_)) := by
      refine ⟨upd_same, Sd.Paired.set h (Sd.Paired.mapM C7.hcs fun x hx y e => ?_) ?_⟩
      · rw [upd_ne (cs5 x hx)]
        exact t15 _ _ e
      · rw [upd_ne nu5]
        exact e5
    have st8 : Same H6 (upd G5 D (.lst ((cs.set h u5).map V.ref))) := fun x o e => by
      rw [upd_ne (ne_of_none e C7.fD)]
      exact (C7.st.trans t15) _ _ e
    generalize upd G5 D (.lst ((cs.set h u5).map V.ref)) = H8 at W8 st8 ⊢
    clear t1 e1 t2 e2 t3 e3 t4 e4 t5 e5 t13 t15 D5' hu1 hu2 hu3 hu4 hu5 C7 hch atc
    -- the long plans
    have plHc : H8 pl = some (.lst (ls.map V.ref)) := st8 _ _ R.hpl
    have lsHc : Paired (fun l ps => H8 l = some (.lst (ps.map V.ref))) ls pss := Sd.Paired.mapM R.hls fun x _ y e => st8 _ _ e
    refine ⟨_, rfl, pl, rfl, ⟨_, SqL.of plHc⟩, fun D2 hD2 => ?_⟩
    refine lc_list (K := K) (xs := ls.map V.ref) (fun i H' => ∃ cs : List Addr, cs.length = i ∧ Sd.Copied H8 H' D2 cs (pss.take i)) ⟨[], rfl, Sd.Same.new hD2, upd_same, .nil, by simp, by simp, hD2⟩ (fun i H' _ h => SqL.of (h.choose_spec.2.st _ _ plHc)) ?_ ?_
    · rintro i x H' hx ⟨cs, hcl, C⟩
      rw [List.getElem?_map] at hx
      cases hl : ls[i]? with
      | none => rw [hl] at hx; cases hx
      | some l =>
        rw [hl] at hx
        cases hx
        obtain ⟨ps, hps, hlp2⟩ := Sd.Paired.get2 lsHc hl
        refine ⟨rfl, _, rfl, l, _, rfl, .inl (SqL.of (C.st _ _ hlp2)), fun c hc => ?_⟩
        have nc : c ≠ D2 := fun z => by rw [z, C.hD] at hc; cases hc
        refine ⟨_, (by rw [upd_ne nc.symm]; exact C.hD), ?_, cs ++ [c], by rw [List.length_append, hcl]; rfl, ?_⟩
        · rw [List.length_map, hcl]
          have := (List.getElem?_eq_some_iff.mp hl).1
          exact small1000 (by omega)
        · have e : pss.take (i + 1) = pss.take i ++ [ps] := by
            obtain ⟨h1, h2⟩ := List.getElem?_eq_some_iff.mp hps
            rw [List.take_succ_eq_append_getElem h1, h2]
          rw [e]
          exact C.add hc
    rintro H9 ⟨cs2, hcl2, C9⟩
    rw [List.length_map, lls, ← lpss, List.take_length] at C9
    rw [List.length_map, lls] at hcl2
    have D9 := (D6.same st8).same C9.st
    have S9 := (st8.trans C9.st).seq S6
    refine ⟨_, rfl, d, a, ns, _, rfl, by decide +kernel, D9, S9, fun pd H10 dd ew okd hpd hpd10 D10 b910 => ?_⟩
    have ndD2 : D2 ≠ d := fun z => by
      obtain ⟨_, hd8⟩ := (D6.same st8).some
      rw [z, hd8] at hD2
      cases hD2
    have ncs2 : ∀ c ∈ cs2, c ≠ d := fun c hc z => by
      obtain ⟨_, hd8⟩ := (D6.same st8).some
      have := (C9.fr c hc).1
      rw [z, hd8] at this
      cases this
    have C10D := b910 _ _ ndD2 C9.hD
    have C10 := Sd.Paired.mapM (R' := fun c ps => H10 c = some (.lst (ps.map V.ref))) C9.hcs fun x hx y e => b910 _ _ (ncs2 x hx) e
    refine ⟨(by show 1 ≤ sizeLine; decide), fun w1 hw1 => ⟨w1, _, _, rfl, rfl, upd_same, by decide, by decide, (by show 41 ≤ sizeLine; decide), fun w2 hw2 => ?_⟩⟩
    have q1 := Sd.Same.new (o := .lst [.ref pd]) hw1
    have q2 := Sd.Same.new (o := .lst (List.replicate (Int.toNat 41) [V.ref pd]).flatten) hw2
    have e2 : upd (upd H10 w1 (.lst [.ref pd])) w2 (.lst (List.replicate (Int.toNat 41) [V.ref pd]).flatten) w2 = some (.lst ((List.replicate 41 pd).map V.ref)) := by
      rw [upd_same]
      rfl
    have q12 := q1.trans q2
    generalize hX : upd (upd H10 w1 _) w2 _ = H11
    have hX' : upd (upd H10 w1 (.lst [.ref pd])) w2 (.lst (List.replicate (Int.toNat 41) [V.ref pd]).flatten) = H11 := hX
    rw [hX'] at q12 e2
    clear hX hX' q2 q1
    have nw2 : w2 ≠ D2 := fun z => by
      have f : H10 w2 = none := by
        cases zz : H10 w2 with
        | none => rfl
        | some o =>
          have := Sd.Same.new (o := .lst [.ref pd]) hw1 _ _ zz
          rw [this] at hw2
          cases hw2
      rw [z, C10D] at f
      cases f
    refine ⟨_, rfl, _, rfl, D2, _, _, h, rfl, rfl, q12 _ _ C10D, Sd.ixN_nat (by rw [List.length_map]; omega), ?_⟩
    rw [← List.map_set]
    have L12 : Sd.PlansAt (upd H11 D2 (.lst ((cs2.set h w2).map V.ref))) D2 (cs2.set h w2) (pss.set h (List.replicate 41 pd)) := by
      refine ⟨upd_same, Sd.Paired.set h (Sd.Paired.mapM C10 fun x hx y e => ?_) ?_⟩
      · rw [upd_ne (C9.fr x hx).2]
        exact q12 _ _ e
      · rw [upd_ne nw2]
        exact e2
    have bt812 : Sd.But d H8 (upd H11 D2 (.lst ((cs2.set h w2).map V.ref))) := fun c o n e => by
      rw [upd_ne (ne_of_none e hD2)]
      exact q12 _ _ (b910 _ _ n (C9.st _ _ e))
    have tu812 : Sd.Tu H8 (upd H11 D2 (.lst ((cs2.set h w2).map V.ref))) := tuD (D6.same st8) bt812
    have cD12 : upd H11 D2 (.lst ((cs2.set h w2).map V.ref)) D2 = some (.lst ((cs2.set h w2).map V.ref)) := upd_same
    have pd12 : Sd.Tu H10 (upd H11 D2 (.lst ((cs2.set h w2).map V.ref))) := (Sd.Tu.same q12).trans (Sd.Tu.upd fun xs e => by
      rw [q12 _ _ C10D] at e
      cases e)
    generalize upd H11 D2 (.lst ((cs2.set h w2).map V.ref)) = H12 at L12 bt812 tu812 cD12 pd12 ⊢
    have wne : ∀ c ∈ D :: cs.set h u5, c ≠ d := fun c hc z => by
      obtain ⟨_, hd8⟩ := (D6.same st8).some
      have hc' : ∃ l : List Addr, H8 c = some (.lst (l.map V.ref)) := by
        rcases List.mem_cons.mp hc with e | e
        · exact ⟨_, by rw [e]; exact W8.1⟩
        · obtain ⟨i, hi, ei⟩ := List.mem_iff_getElem.mp e
          obtain ⟨y, _, hy⟩ := Sd.Paired.get2 W8.2 (show (cs.set h u5)[i]? = some c by rw [List.getElem?_eq_getElem hi, ei])
          exact ⟨y, hy⟩
      obtain ⟨l, hl⟩ := hc'
      obtain ⟨x1, x2, x3, hdd⟩ := D6.same st8
      rw [z, hdd] at hl
      cases l with
      | nil => cases hl
      | cons y r => cases hl
    have W12 : Sd.PlansAt H12 D (cs.set h u5) (pss.set h (pss[h].take at_ ++ po :: pss[h].drop at_)) :=
      ⟨bt812 _ _ (wne _ List.mem_cons_self) W8.1, Sd.Paired.mapM W8.2 fun x hx y e => bt812 _ _ (wne x (List.mem_cons_of_mem _ hx)) e⟩
    have tu612 : Sd.Tu H6 H12 := (Sd.Tu.same st8).trans tu812
    have xo12 := tu612 _ _ hxo6
    have shortset : ∀ q : List Addr, q.length ≤ 100000 → ∀ ps ∈ pss.set h q, ps.length ≤ 100000 := fun q hq ps hps => by
      rcases List.mem_or_eq_of_mem_set hps with e | e
      · exact short ps e
      · rw [e]; exact hq
    have goodset : ∀ {H' : Hp} (q : List Addr), Sd.Tu H6 H' → ∀ (j : Nat) (qs : List Addr), j < h → (pss.set h q)[j]? = some qs → Sd.GoodPlan H' j qs := fun q t j qs hj e => by
      rw [List.getElem?_set_ne (by omega)] at e
      exact hgood t j qs e
    have seth : ∀ q : List Addr, (pss.set h q)[h]? = some q := fun q => List.getElem?_set_self (by omega)
    have lset : ∀ q : List Addr, (pss.set h q).length = 4 := fun q => by rw [List.length_set]; exact lpss
    -- no hall of the wrong ones
    refine ⟨_, rfl, D, _, _, rfl, W12, by rw [lset]; decide, shortset _ ?_, by rw [lset]; decide, by rw [lset]; decide, ⟨h, _, seth _, ?_, fun j qs hj e => goodset _ tu612 j qs hj e⟩, fun H13 s13 => ⟨true, rfl, ?_⟩⟩
    · rw [List.length_append, List.length_take, List.length_cons, List.length_drop]
      omega
    · have lt : (pss[h].take at_).length = at_ := by rw [List.length_take]; omega
      refine .inr ⟨at_, po, ?_, ⟨xo, xo12, hbad _⟩, fun j q hj e => ?_⟩
      · rw [List.getElem?_append_right (by omega), lt, Nat.sub_self]
        rfl
      · rw [List.getElem?_append_left (by omega)] at e
        exact (hgood tu612 h _ hpssh).2 q (List.mem_of_mem_take (List.mem_of_getElem? e))
    -- nor of the long ones
    have L13 : Sd.PlansAt H13 D2 (cs2.set h w2) (pss.set h (List.replicate 41 pd)) := ⟨s13 _ _ L12.1, Sd.Paired.mapM L12.2 fun x _ y e => s13 _ _ e⟩
    have tu613 : Sd.Tu H6 H13 := tu612.trans (Sd.Tu.same s13)
    refine ⟨_, rfl, D2, _, _, rfl, L13, by rw [lset]; decide, shortset _ (by rw [List.length_replicate]; decide), by rw [lset]; decide, by rw [lset]; decide, ⟨h, _, seth _, .inl (by rw [List.length_replicate]; decide), fun j qs hj e => goodset _ tu613 j qs hj e⟩, fun H14 s14 => ⟨true, rfl, ?_⟩⟩
    have L14 : Sd.PlansAt H14 D2 (cs2.set h w2) (pss.set h (List.replicate 41 pd)) := ⟨s14 _ _ L13.1, Sd.Paired.mapM L13.2 fun x _ y e => s14 _ _ e⟩
    have tu614 : Sd.Tu H6 H14 := tu613.trans (Sd.Tu.same s14)
    -- forty are let by
    have hset : (cs2.set h w2)[h]? = some w2 := List.getElem?_set_self (by omega)
    obtain ⟨y41, hy41, hw41⟩ := Sd.Paired.get2 L14.2 hset
    rw [seth] at hy41
    cases hy41
    have at14 : atI ((cs2.set h w2).map V.ref) (h : Int) = some (.ref w2) := at_of rfl (by rw [List.getElem?_map, hset]; rfl)
    refine ⟨_, rfl, _, rfl, D2, _, _, _, rfl, rfl, SqL.of L14.1, at14, _, rfl, ?_⟩
    dsimp only [tNoPart]
    refine ⟨w2, _, rfl, SqL.of hw41, fun u hu => ?_⟩
    have cut40 : cutV ((List.replicate 41 pd).map V.ref) (some (1 : Int)) none = (List.replicate 40 pd).map V.ref := by
      have := Sd.cut_drop (xs := (List.replicate 41 pd).map V.ref) (h := 1)
      rw [show ((1 : Nat) : Int) = 1 from rfl] at this
      rw [this, ← List.map_drop]
      rfl
    rw [cut40]
    have r1 := Sd.Same.new (o := .lst ((List.replicate 40 pd).map V.ref)) hu
    have g1 : upd H14 u (.lst ((List.replicate 40 pd).map V.ref)) u = some (.lst ((List.replicate 40 pd).map V.ref)) := upd_same
    generalize upd H14 u (.lst ((List.replicate 40 pd).map V.ref)) = H15 at r1 g1 ⊢
    have D15 := r1 _ _ L14.1
    have nu : u ≠ D2 := (ne_of_none L14.1 hu).symm
    refine ⟨_, rfl, _, rfl, D2, _, _, h, rfl, rfl, D15, Sd.ixN_nat (by rw [List.length_map, List.length_set]; omega), ?_⟩
    rw [← List.map_set, List.set_set]
    have cs2D : ∀ x ∈ cs2.set h w2, x ≠ D2 := fun x hx => by
      rcases List.mem_or_eq_of_mem_set hx with e | e
      · exact (C9.fr x e).2
      · rw [e]; exact nw2
    have L16 : Sd.PlansAt (upd H15 D2 (.lst ((cs2.set h u).map V.ref))) D2 (cs2.set h u) (pss.set h (List.replicate 40 pd)) := by
      refine ⟨upd_same, ?_⟩
      have := Sd.Paired.set h (x := u) (y := List.replicate 40 pd) (Sd.Paired.mapM (R' := fun c ps => upd H15 D2 (.lst ((cs2.set h u).map V.ref)) c = some (.lst (ps.map V.ref))) L14.2 fun x hx y e => by
        rw [upd_ne (cs2D x hx)]
        exact r1 _ _ e) (by rw [upd_ne nu]; exact g1)
      rw [List.set_set, List.set_set] at this
      exact this
    have tu16 : Sd.Tu H14 (upd H15 D2 (.lst ((cs2.set h u).map V.ref))) := (Sd.Tu.same r1).trans (Sd.Tu.upd fun xs e => by
      rw [D15] at e
      cases e)
    have plD2 : ∀ x ∈ pl :: ls, x ≠ D2 ∧ x ≠ d := fun x hx => by
      have hx6 : ∃ l : List Addr, H6 x = some (.lst (l.map V.ref)) := by
        rcases List.mem_cons.mp hx with e | e
        · exact ⟨_, by rw [e]; exact R.hpl⟩
        · obtain ⟨i, hi, ei⟩ := List.mem_iff_getElem.mp e
          obtain ⟨y, _, hy⟩ := Sd.Paired.get2 R.hls (show ls[i]? = some x by rw [List.getElem?_eq_getElem hi, ei])
          exact ⟨y, hy⟩
      obtain ⟨l, hl⟩ := hx6
      refine ⟨ne_of_none (st8 _ _ hl) hD2, fun z => ?_⟩
      obtain ⟨x1, x2, x3, hdd⟩ := D6
      rw [z, hdd] at hl
      cases l with
      | nil => cases hl
      | cons y r => cases hl
    have bt616 : ∀ x ∈ pl :: ls, ∀ o, H6 x = some o → upd H15 D2 (.lst ((cs2.set h u).map V.ref)) x = some o := fun x hx o e => by
      rw [upd_ne (plD2 x hx).1]
      exact r1 _ _ (s14 _ _ (s13 _ _ (bt812 _ _ (plD2 x hx).2 (st8 _ _ e))))
    have P16 : Sd.PlansAt (upd H15 D2 (.lst ((cs2.set h u).map V.ref))) pl ls pss := ⟨bt616 _ List.mem_cons_self _ R.hpl, Sd.Paired.mapM R.hls fun x hx y e => bt616 x (List.mem_cons_of_mem _ hx) _ e⟩
    have tu616 := tu614.trans tu16
    have pd16 := tu16 _ _ ((Sd.Tu.same s14) _ _ ((Sd.Tu.same s13) _ _ (pd12 _ _ hpd10)))
    generalize upd H15 D2 (.lst ((cs2.set h u).map V.ref)) = H16 at L16 tu616 P16 pd16 ⊢
    have rep : ∀ n : Nat, Sd.PlanAt H16 (List.replicate n pd) (List.replicate n dd) := fun n => by
      induction n with
      | zero => exact .nil
      | succ n ih => exact .cons pd16 ih
    have pp16 : Paired (fun ps plan => Sd.PlanAt H16 ps plan) pss plans := Sd.Paired.mapM R.hps fun x _ y e => e.tu tu616
    refine ⟨_, rfl, fun b3 dx3 nb3 ndb3 nx3 => ⟨b3, dx3, D2, cs2.set h u, pss.set h (List.replicate 40 pd), rfl, upd_same, ?_, by rw [lset]; decide, shortset (List.replicate 40 pd) (by rw [List.length_replicate]; decide), .inl ⟨plans.set h (List.replicate 40 dd), by rw [lset]; decide, by rw [lset]; decide, ?_, ?_, fun g H17 gh gf gb HA => ⟨rfl, ?_⟩⟩⟩⟩
    · have s0 : ∀ {x : Addr} {o : HO}, H16 x = some o → upd (upd H16 dx3 (.own b3)) b3 (.ins A_Hall dx3 []) x = some o := fun e => by
        rw [upd_ne (ne_of_none e nb3), upd_ne (ne_of_none e ndb3)]
        exact e
      exact ⟨s0 L16.1, Sd.Paired.mapM L16.2 fun x _ y e => s0 e⟩
    · intro i ps hi
      have t0 : Sd.Tu H16 (upd (upd H16 dx3 (.own b3)) b3 (.ins A_Hall dx3 [])) := fun x xs e => by
        rw [upd_ne (ne_of_none e nb3), upd_ne (ne_of_none e ndb3)]
        exact e
      by_cases ei : i = h
      · subst ei
        rw [seth] at hi
        cases hi
        refine ⟨by rw [List.length_replicate]; decide, fun q hq => ?_⟩
        rw [List.eq_of_mem_replicate hq]
        refine ⟨dd, t0 _ _ pd16, okd, fun z => ?_⟩
        rw [z] at ew
        exact absurd ew (by decide +kernel : ¬ (("take" : Str) = "add"))
      · rw [List.getElem?_set_ne (Ne.symm ei)] at hi
        exact hgood (tu616.trans t0) i ps hi
    · have t0 : Sd.Tu H16 (upd (upd H16 dx3 (.own b3)) b3 (.ins A_Hall dx3 [])) := fun x xs e => by
        rw [upd_ne (ne_of_none e nb3), upd_ne (ne_of_none e ndb3)]
        exact e
      exact Sd.Paired.set h (Sd.Paired.mapM pp16 fun x _ y e => e.tu t0) ((rep 40).tu t0)
    obtain ⟨dxh, hob⟩ := HA.ob
    have st17 : Same H16 H17 := Sd.made_same nb3 ndb3 gb
    rw [gh] at hob
    refine ⟨b3, dxh, _, rfl, hob, rfl, g, _, (by rw [gh]; rfl), HA, fun pr rs hpr hrs => ?_⟩
    have ers : rs = [] := by
      cases hrs
      rfl
    subst ers
    have st18 := Sd.Same.new (o := .lst []) hpr
    have c18 : upd H17 pr (.lst []) pr = some (.lst (([] : List Int).map V.int)) := upd_same
    generalize upd H17 pr (.lst []) = H18 at st18 c18 ⊢
    refine ⟨(by show 0 ≤ sizeLine; decide), fun e1 he1 => ?_⟩
    have st19 := Sd.Same.new (o := .lst []) he1
    refine ⟨Sd.dInts [], Sd.dInts [], Sd.dInts_dp (SqL.of (st19 _ _ c18)), Sd.dInts_dp (SqL.of upd_same), Sd.dInts_shaped _, Sd.dInts_shaped _, _, rfl, ?_⟩
    have st20 := ((st17.trans st18).trans st19)
    generalize upd H18 e1 (.lst []) = H20 at st20 ⊢
    have P20 : Sd.PlansAt H20 pl ls pss := ⟨st20 _ _ P16.1, Sd.Paired.mapM P16.2 fun x _ y e => st20 _ _ e⟩
    refine ⟨_, rfl, fun b4 dx4 nb4 ndb4 nx4 => ⟨b4, dx4, pl, ls, pss, rfl, upd_same, ?_, by rw [lpss]; decide, short, .inl ⟨plans, by rw [lpss]; decide, by rw [lpss]; decide, ?_, ?_, fun g2 H21 gh2 gf2 gb2 HA2 => ⟨rfl, ?_⟩⟩⟩⟩
    · have s0 : ∀ {x : Addr} {o : HO}, H20 x = some o → upd (upd H20 dx4 (.own b4)) b4 (.ins A_Hall dx4 []) x = some o := fun e => by
        rw [upd_ne (ne_of_none e nb4), upd_ne (ne_of_none e ndb4)]
        exact e
      exact ⟨s0 P20.1, Sd.Paired.mapM P20.2 fun x _ y e => s0 e⟩
    · have t0 : Sd.Tu H20 (upd (upd H20 dx4 (.own b4)) b4 (.ins A_Hall dx4 [])) := fun x xs e => by
        rw [upd_ne (ne_of_none e nb4), upd_ne (ne_of_none e ndb4)]
        exact e
      exact hgood ((tu616.trans (Sd.Tu.same st20)).trans t0)
    · have t0 : Sd.Tu H20 (upd (upd H20 dx4 (.own b4)) b4 (.ins A_Hall dx4 [])) := fun x xs e => by
        rw [upd_ne (ne_of_none e nb4), upd_ne (ne_of_none e ndb4)]
        exact e
      exact Sd.Paired.mapM pp16 fun x _ y e => e.tu ((Sd.Tu.same st20).trans t0)
    obtain ⟨dxh2, hob2⟩ := HA2.ob
    rw [gh2] at hob2
    refine ⟨b4, dxh2, _, rfl, hob2, rfl, g2, _, (by rw [gh2]; rfl), HA2, fun pr2 rs2 hpr2 hrs2 => ?_⟩
    have ers : rs2 = [] := by
      cases hrs2
      rfl
    subst ers
    have c22 : upd H21 pr2 (.lst []) pr2 = some (.lst (([] : List Int).map V.int)) := upd_same
    refine ⟨(by show 0 ≤ sizeLine; decide), fun e2' he2 => ?_⟩
    exact ⟨Sd.dInts [], Sd.dInts [], Sd.dInts_dp (SqL.of (Sd.Same.new he2 _ _ c22)), Sd.dInts_dp (SqL.of upd_same), Sd.dInts_shaped _, Sd.dInts_shaped _, q _⟩
end

theorem all_mk {l : PySem.W.OpenLaw} {w : World} {K : PySem.W.Frag} {h : Heap} {mg : Str → Option Value} {fa f1 f2 f3 f4 f5 f6 f7 f8 f9 f10 f11 f12 f13 f14 f15 f16 A_Boxes A_Hand A_Hall A_HandsError A_NoNumber A_NoBox A_NoHand A_NoDeed A_THING_OF A_WITH_A_NUMBER : Addr} {tG tH tD tT : Tok} (X : K.In h) (G : h.Ns mainGlobals mg) (hfa : mg "law" = some (.ref fa))
    {od1 an1 od2 an2 od3 an3 od4 an4 od5 an5 od6 an6 od7 an7 od8 an8 od9 an9 od10 an10 od11 an11 od12 an12 od13 an13 od14 an14 od15 an15 od16 an16 : Option Addr} {sl1 sl2 sl3 sl4 sl5 sl6 sl7 sl8 sl9 sl10 sl11 sl12 sl13 sl14 sl15 sl16 : Array (Option Value)} {oc1 kV1 dc1 pm1 cd1 ct1 oc2 kV2 dc2 pm2 cd2 ct2 oc3 kV3 dc3 pm3 cd3 ct3 oc4 kV4 dc4 pm4 cd4 ct4 oc5 kV5 dc5 pm5 cd5 ct5 oc6 kV6 dc6 pm6 cd6 ct6 oc7 kV7 dc7 pm7 cd7 ct7 oc8 kV8 dc8 pm8 cd8 ct8 oc9 kV9 dc9 pm9 cd9 ct9 oc10 kV10 dc10 pm10 cd10 ct10 oc11 kV11 dc11 pm11 cd11 ct11 oc12 kV12 dc12 pm12 cd12 ct12 oc13 kV13 dc13 pm13 cd13 ct13 oc14 kV14 dc14 pm14 cd14 ct14 oc15 kV15 dc15 pm15 cd15 ct15 oc16 kV16 dc16 pm16 cd16 ct16 : Value}
    {es_THING_OF : Array DictEntry} {ne_THING_OF : Nat} {tk_THING_OF_0 tk_THING_OF_1 tk_THING_OF_2 tk_THING_OF_3 tk_THING_OF_4 tk_THING_OF_5 tk_THING_OF_6 tk_THING_OF_7 tk_THING_OF_8 tk_THING_OF_9 : Tok}
    {dd_WITH_A_NUMBER : Option Addr} {nn_WITH_A_NUMBER : Nat} {sl_WITH_A_NUMBER : Array (Option Value)} {tk_WITH_A_NUMBER_0 tk_WITH_A_NUMBER_1 tk_WITH_A_NUMBER_2 tk_WITH_A_NUMBER_3 : Tok}
    (a_Boxes : PySem.W.nsIn K mainGlobals "Boxes" = some (some (.ref A_Boxes)))
    (a_Hand : PySem.W.nsIn K mainGlobals "Hand" = some (some (.ref A_Hand)))
    (a_Hall : PySem.W.nsIn K mainGlobals "Hall" = some (some (.ref A_Hall)))
    (a_HandsError : PySem.W.nsIn K mainGlobals "HandsError" = some (some (.ref A_HandsError)))
    (a_NoNumber : PySem.W.nsIn K mainGlobals "NoNumber" = some (some (.ref A_NoNumber)))
    (a_NoBox : PySem.W.nsIn K mainGlobals "NoBox" = some (some (.ref A_NoBox)))
    (a_NoHand : PySem.W.nsIn K mainGlobals "NoHand" = some (some (.ref A_NoHand)))
    (a_NoDeed : PySem.W.nsIn K mainGlobals "NoDeed" = some (some (.ref A_NoDeed)))
    (a_THING_OF : PySem.W.nsIn K mainGlobals "THING_OF" = some (some (.ref A_THING_OF)))
    (l_THING_OF : K.lookup A_THING_OF = some ⟨.type "dict", none, .dict es_THING_OF ne_THING_OF, #[]⟩)
    (kk_THING_OF : PySem.W.KeysLit w.params es_THING_OF.toList)
    (lo_THING_OF : (A_THING_OF == sysModules) = false)
    (v0_THING_OF : PySem.W.nsIn K A_THING_OF "one" = some (some (.int 0 tk_THING_OF_0)))
    (v1_THING_OF : PySem.W.nsIn K A_THING_OF "count" = some (some (.int 0 tk_THING_OF_1)))
    (v2_THING_OF : PySem.W.nsIn K A_THING_OF "set" = some (some (.int 1 tk_THING_OF_2)))
    (v3_THING_OF : PySem.W.nsIn K A_THING_OF "look" = some (some (.int 1 tk_THING_OF_3)))
    (v4_THING_OF : PySem.W.nsIn K A_THING_OF "add" = some (some (.int 2 tk_THING_OF_4)))
    (v5_THING_OF : PySem.W.nsIn K A_THING_OF "sum" = some (some (.int 2 tk_THING_OF_5)))
    (v6_THING_OF : PySem.W.nsIn K A_THING_OF "raise" = some (some (.int 3 tk_THING_OF_6)))
    (v7_THING_OF : PySem.W.nsIn K A_THING_OF "top" = some (some (.int 3 tk_THING_OF_7)))
    (v8_THING_OF : PySem.W.nsIn K A_THING_OF "give" = some (some (.int 4 tk_THING_OF_8)))
    (v9_THING_OF : PySem.W.nsIn K A_THING_OF "take" = some (some (.int 4 tk_THING_OF_9)))
    (w0_THING_OF : PySem.W.nsIn K A_THING_OF "ones" = some none)
    (w1_THING_OF : PySem.W.nsIn K A_THING_OF "" = some none)
    (w2_THING_OF : PySem.W.nsIn K A_THING_OF "Set" = some none)
    (w3_THING_OF : PySem.W.nsIn K A_THING_OF "two" = some none)
    (a_WITH_A_NUMBER : PySem.W.nsIn K mainGlobals "WITH_A_NUMBER" = some (some (.ref A_WITH_A_NUMBER)))
    (l_WITH_A_NUMBER : K.lookup A_WITH_A_NUMBER = some ⟨.type "tuple", dd_WITH_A_NUMBER, .seq #[.str "set" tk_WITH_A_NUMBER_0, .str "add" tk_WITH_A_NUMBER_1, .str "raise" tk_WITH_A_NUMBER_2, .str "give" tk_WITH_A_NUMBER_3] nn_WITH_A_NUMBER, sl_WITH_A_NUMBER⟩)
    (x_NoHand : PySem.W.excIn K A_NoHand [.type "ValueError", .type "Exception", .type "BaseException", .type "object"] "ValueError.__new__" = true)
    (k_NoHand : PySem.W.keepIn K (.ref A_NoHand) = true)
    (b_NoHand : PySem.W.subIn K (.ref A_NoHand) (.type "BaseException") = some true)
    (t_NoHand : PySem.W.typeIn K (.ref A_NoHand) = some (.type "type"))
    (bS_NoHand : PySem.W.subIn K (.ref A_HandsError) (.type "BaseException") = some true)
    (hS_NoHand : PySem.W.hasDictIn K A_HandsError = true)
    (tS_NoHand : PySem.W.typeIn K (.ref A_HandsError) = some (.type "type"))
    (u_NoHand : PySem.W.subIn K (.ref A_NoHand) (.ref A_HandsError) = some true)
    (e1_NoHand : PySem.W.findIn K (.ref A_NoHand) "__getattribute__" = some (some (.builtin "BaseException.__getattribute__")))
    (e2_NoHand : PySem.W.findIn K (.ref A_NoHand) "__getattr__" = some none)
    (e3_NoHand : PySem.W.hasDictIn K A_NoHand = true)
    (e4_NoHand : PySem.W.findIn K (.ref A_NoHand) "__class__" = some (some (.builtin "object.__class__")))
    (e5_NoHand : PySem.W.specialIn K (.builtin "object.__class__") "__get__" = some (some (.builtin "getset_descriptor.__get__")))
    (e6_NoHand : PySem.W.takesIn K (.builtin "object.__class__") = some true)
    (e7_NoHand : PySem.W.mroIn K A_NoHand (.type "object") = some true)
    (me_NoHand : PySem.W.kitOne K (.ref A_NoHand) (.ref A_NoHand) = some true)
    (ve_NoHand : PySem.W.kitOne K (.ref A_NoHand) (.type "ValueError") = some true)
    (su_NoHand : PySem.W.kitOne K (.ref A_NoHand) (.ref A_HandsError) = some true)
    (x_NoDeedS : PySem.W.excIn K A_NoDeed [.type "ValueError", .type "Exception", .type "BaseException", .type "object"] "ValueError.__new__" = true)
    (k_NoDeedS : PySem.W.keepIn K (.ref A_NoDeed) = true)
    (b_NoDeedS : PySem.W.subIn K (.ref A_NoDeed) (.type "BaseException") = some true)
    (t_NoDeedS : PySem.W.typeIn K (.ref A_NoDeed) = some (.type "type"))
    (bS_NoDeedS : PySem.W.subIn K (.ref A_NoDeed) (.type "BaseException") = some true)
    (hS_NoDeedS : PySem.W.hasDictIn K A_NoDeed = true)
    (tS_NoDeedS : PySem.W.typeIn K (.ref A_NoDeed) = some (.type "type"))
    (u_NoDeedS : PySem.W.subIn K (.ref A_NoDeed) (.ref A_NoDeed) = some true)
    (e1_NoDeedS : PySem.W.findIn K (.ref A_NoDeed) "__getattribute__" = some (some (.builtin "BaseException.__getattribute__")))
    (e2_NoDeedS : PySem.W.findIn K (.ref A_NoDeed) "__getattr__" = some none)
    (e3_NoDeedS : PySem.W.hasDictIn K A_NoDeed = true)
    (e4_NoDeedS : PySem.W.findIn K (.ref A_NoDeed) "__class__" = some (some (.builtin "object.__class__")))
    (e5_NoDeedS : PySem.W.specialIn K (.builtin "object.__class__") "__get__" = some (some (.builtin "getset_descriptor.__get__")))
    (e6_NoDeedS : PySem.W.takesIn K (.builtin "object.__class__") = some true)
    (e7_NoDeedS : PySem.W.mroIn K A_NoDeed (.type "object") = some true)
    (me_NoDeedS : PySem.W.kitOne K (.ref A_NoDeed) (.ref A_NoDeed) = some true)
    (ve_NoDeedS : PySem.W.kitOne K (.ref A_NoDeed) (.type "ValueError") = some true)
    (su_NoDeedS : PySem.W.kitOne K (.ref A_NoDeed) (.ref A_NoDeed) = some true)
    (x_NoDeed : PySem.W.excIn K A_NoDeed [.type "ValueError", .type "Exception", .type "BaseException", .type "object"] "ValueError.__new__" = true)
    (k_NoDeed : PySem.W.keepIn K (.ref A_NoDeed) = true)
    (b_NoDeed : PySem.W.subIn K (.ref A_NoDeed) (.type "BaseException") = some true)
    (t_NoDeed : PySem.W.typeIn K (.ref A_NoDeed) = some (.type "type"))
    (bS_NoDeed : PySem.W.subIn K (.ref A_HandsError) (.type "BaseException") = some true)
    (hS_NoDeed : PySem.W.hasDictIn K A_HandsError = true)
    (tS_NoDeed : PySem.W.typeIn K (.ref A_HandsError) = some (.type "type"))
    (u_NoDeed : PySem.W.subIn K (.ref A_NoDeed) (.ref A_HandsError) = some true)
    (e1_NoDeed : PySem.W.findIn K (.ref A_NoDeed) "__getattribute__" = some (some (.builtin "BaseException.__getattribute__")))
    (e2_NoDeed : PySem.W.findIn K (.ref A_NoDeed) "__getattr__" = some none)
    (e3_NoDeed : PySem.W.hasDictIn K A_NoDeed = true)
    (e4_NoDeed : PySem.W.findIn K (.ref A_NoDeed) "__class__" = some (some (.builtin "object.__class__")))
    (e5_NoDeed : PySem.W.specialIn K (.builtin "object.__class__") "__get__" = some (some (.builtin "getset_descriptor.__get__")))
    (e6_NoDeed : PySem.W.takesIn K (.builtin "object.__class__") = some true)
    (e7_NoDeed : PySem.W.mroIn K A_NoDeed (.type "object") = some true)
    (me_NoDeed : PySem.W.kitOne K (.ref A_NoDeed) (.ref A_NoDeed) = some true)
    (ve_NoDeed : PySem.W.kitOne K (.ref A_NoDeed) (.type "ValueError") = some true)
    (su_NoDeed : PySem.W.kitOne K (.ref A_NoDeed) (.ref A_HandsError) = some true)
    (no_NoDeed_NoBox : PySem.W.kitOne K (.ref A_NoDeed) (.ref A_NoBox) = some false)
    (no_NoDeed_NoNumber : PySem.W.kitOne K (.ref A_NoDeed) (.ref A_NoNumber) = some false)
    (no_NoDeed_NoHand : PySem.W.kitOne K (.ref A_NoDeed) (.ref A_NoHand) = some false)
    (a1 : PySem.W.nsIn K mainGlobals "_law_cell" = some (some (.ref f1)))
    (l1 : K.lookup f1 = some ⟨oc1, od1, .func (PySem.W.fnOf "_law_cell" "_law_cell" (defArgs s_l_cell) (defBody s_l_cell) (defScope s_l_cell) .none kV1 dc1 pm1 an1 cd1 ct1), sl1⟩)
    (c1 : PySem.W.codeIn K cd1 "_law_cell" = true)
    (k1 : PySem.W.keepIn K (.ref f1) = true)
    (a2 : PySem.W.nsIn K mainGlobals "_law_dice" = some (some (.ref f2)))
    (l2 : K.lookup f2 = some ⟨oc2, od2, .func (PySem.W.fnOf "_law_dice" "_law_dice" (defArgs s_l_dice) (defBody s_l_dice) (defScope s_l_dice) .none kV2 dc2 pm2 an2 cd2 ct2), sl2⟩)
    (c2 : PySem.W.codeIn K cd2 "_law_dice" = true)
    (k2 : PySem.W.keepIn K (.ref f2) = true)
    (a3 : PySem.W.nsIn K mainGlobals "_law_off" = some (some (.ref f3)))
    (l3 : K.lookup f3 = some ⟨oc3, od3, .func (PySem.W.fnOf "_law_off" "_law_off" (defArgs s_l_off) (defBody s_l_off) (defScope s_l_off) .none kV3 dc3 pm3 an3 cd3 ct3), sl3⟩)
    (c3 : PySem.W.codeIn K cd3 "_law_off" = true)
    (k3 : PySem.W.keepIn K (.ref f3) = true)
    (a4 : PySem.W.nsIn K mainGlobals "_law_deed" = some (some (.ref f4)))
    (l4 : K.lookup f4 = some ⟨oc4, od4, .func (PySem.W.fnOf "_law_deed" "_law_deed" (defArgs s_l_deed) (defBody s_l_deed) (defScope s_l_deed) .none kV4 dc4 pm4 an4 cd4 ct4), sl4⟩)
    (c4 : PySem.W.codeIn K cd4 "_law_deed" = true)
    (k4 : PySem.W.keepIn K (.ref f4) = true)
    (a5 : PySem.W.nsIn K mainGlobals "_need_number" = some (some (.ref f5)))
    (l5 : K.lookup f5 = some ⟨oc5, od5, .func (PySem.W.fnOf "_need_number" "_need_number" (defArgs s__need_number) (defBody s__need_number) (defScope s__need_number) .none kV5 dc5 pm5 an5 cd5 ct5), sl5⟩)
    (c5 : PySem.W.codeIn K cd5 "_need_number" = true)
    (k5 : PySem.W.keepIn K (.ref f5) = true)
    (a6 : PySem.W.nsIn K mainGlobals "need_deed" = some (some (.ref f6)))
    (l6 : K.lookup f6 = some ⟨oc6, od6, .func (PySem.W.fnOf "need_deed" "need_deed" (defArgs s_need_deed) (defBody s_need_deed) (defScope s_need_deed) .none kV6 dc6 pm6 an6 cd6 ct6), sl6⟩)
    (c6 : PySem.W.codeIn K cd6 "need_deed" = true)
    (k6 : PySem.W.keepIn K (.ref f6) = true)
    (a7 : PySem.W.findIn K (.ref A_Boxes) "__init__" = some (some (.ref f7)))
    (i7 : PySem.W.isFn K (.ref f7) = true)
    (l7 : K.lookup f7 = some ⟨oc7, od7, .func (PySem.W.fnOf "__init__" "Boxes.__init__" (defArgs s_Boxes__init_) (defBody s_Boxes__init_) (defScope s_Boxes__init_) .none kV7 dc7 pm7 an7 cd7 ct7), sl7⟩)
    (c7 : PySem.W.codeIn K cd7 "Boxes.__init__" = true)
    (k7 : PySem.W.keepIn K (.ref f7) = true)
    (a8 : PySem.W.findIn K (.ref A_Hand) "__init__" = some (some (.ref f8)))
    (i8 : PySem.W.isFn K (.ref f8) = true)
    (l8 : K.lookup f8 = some ⟨oc8, od8, .func (PySem.W.fnOf "__init__" "Hand.__init__" (defArgs s_Hand__init_) (defBody s_Hand__init_) (defScope s_Hand__init_) .none kV8 dc8 pm8 an8 cd8 ct8), sl8⟩)
    (c8 : PySem.W.codeIn K cd8 "Hand.__init__" = true)
    (k8 : PySem.W.keepIn K (.ref f8) = true)
    (a9 : PySem.W.nsIn K mainGlobals "_need_plans" = some (some (.ref f9)))
    (l9 : K.lookup f9 = some ⟨oc9, od9, .func (PySem.W.fnOf "_need_plans" "_need_plans" (defArgs s__need_plans) (defBody s__need_plans) (defScope s__need_plans) .none kV9 dc9 pm9 an9 cd9 ct9), sl9⟩)
    (c9 : PySem.W.codeIn K cd9 "_need_plans" = true)
    (k9 : PySem.W.keepIn K (.ref f9) = true)
    (a10 : PySem.W.findIn K (.ref A_Hall) "__init__" = some (some (.ref f10)))
    (i10 : PySem.W.isFn K (.ref f10) = true)
    (l10 : K.lookup f10 = some ⟨oc10, od10, .func (PySem.W.fnOf "__init__" "Hall.__init__" (defArgs s_Hall__init_) (defBody s_Hall__init_) (defScope s_Hall__init_) .none kV10 dc10 pm10 an10 cd10 ct10), sl10⟩)
    (c10 : PySem.W.codeIn K cd10 "Hall.__init__" = true)
    (k10 : PySem.W.keepIn K (.ref f10) = true)
    (a11 : PySem.W.findIn K (.ref A_Hall) "records" = some (some (.ref f11)))
    (i11 : PySem.W.isFn K (.ref f11) = true)
    (l11 : K.lookup f11 = some ⟨oc11, od11, .func (PySem.W.fnOf "records" "Hall.records" (defArgs s_Hall_records) (defBody s_Hall_records) (defScope s_Hall_records) .none kV11 dc11 pm11 an11 cd11 ct11), sl11⟩)
    (c11 : PySem.W.codeIn K cd11 "Hall.records" = true)
    (k11 : PySem.W.keepIn K (.ref f11) = true)
    (a12 : PySem.W.nsIn K mainGlobals "_law_plans" = some (some (.ref f12)))
    (l12 : K.lookup f12 = some ⟨oc12, od12, .func (PySem.W.fnOf "_law_plans" "_law_plans" (defArgs s_l_plans) (defBody s_l_plans) (defScope s_l_plans) .none kV12 dc12 pm12 an12 cd12 ct12), sl12⟩)
    (c12 : PySem.W.codeIn K cd12 "_law_plans" = true)
    (k12 : PySem.W.keepIn K (.ref f12) = true)
    (a13 : PySem.W.nsIn K mainGlobals "_law_refused" = some (some (.ref f13)))
    (l13 : K.lookup f13 = some ⟨oc13, od13, .func (PySem.W.fnOf "_law_refused" "_law_refused" (defArgs s_l_refused) (defBody s_l_refused) (defScope s_l_refused) .none kV13 dc13 pm13 an13 cd13 ct13), sl13⟩)
    (c13 : PySem.W.codeIn K cd13 "_law_refused" = true)
    (k13 : PySem.W.keepIn K (.ref f13) = true)
    (a14 : PySem.W.nsIn K mainGlobals "_law_no_hall" = some (some (.ref f14)))
    (l14 : K.lookup f14 = some ⟨oc14, od14, .func (PySem.W.fnOf "_law_no_hall" "_law_no_hall" (defArgs s_l_no_hall) (defBody s_l_no_hall) (defScope s_l_no_hall) .none kV14 dc14 pm14 an14 cd14 ct14), sl14⟩)
    (c14 : PySem.W.codeIn K cd14 "_law_no_hall" = true)
    (k14 : PySem.W.keepIn K (.ref f14) = true)
    (a15 : PySem.W.nsIn K mainGlobals "_law_odd" = some (some (.ref f15)))
    (l15 : K.lookup f15 = some ⟨oc15, od15, .func (PySem.W.fnOf "_law_odd" "_law_odd" (defArgs s_l_odd) (defBody s_l_odd) (defScope s_l_odd) .none kV15 dc15 pm15 an15 cd15 ct15), sl15⟩)
    (c15 : PySem.W.codeIn K cd15 "_law_odd" = true)
    (k15 : PySem.W.keepIn K (.ref f15) = true)
    (a16 : PySem.W.nsIn K mainGlobals "law" = some (some (.ref f16)))
    (l16 : K.lookup f16 = some ⟨oc16, od16, .func (PySem.W.fnOf "law" "law" (defArgs s_law) (defBody s_law) (defScope s_law) .none kV16 dc16 pm16 an16 cd16 ct16), sl16⟩)
    (c16 : PySem.W.codeIn K cd16 "law" = true)
    (k16 : PySem.W.keepIn K (.ref f16) = true)
    (pg_Boxes : PySem.W.plainGet K A_Boxes Str.empty = true)
    (hd_Boxes : PySem.W.hasDictIn K A_Boxes = true)
    (po_Boxes : PySem.W.plainOver K A_Boxes = true)
    (sa_Boxes : PySem.W.findIn K (.ref A_Boxes) "__setattr__" = some (some (.builtin "object.__setattr__")))
    (mk_Boxes : PySem.W.makesIn K A_Boxes = true)
    (kc_Boxes : PySem.W.keepIn K (.ref A_Boxes) = true)
    (n_Boxes__numbers : PySem.W.findIn K (.ref A_Boxes) "_numbers" = some none)
    (pg_Hand : PySem.W.plainGet K A_Hand Str.empty = true)
    (hd_Hand : PySem.W.hasDictIn K A_Hand = true)
    (po_Hand : PySem.W.plainOver K A_Hand = true)
    (sa_Hand : PySem.W.findIn K (.ref A_Hand) "__setattr__" = some (some (.builtin "object.__setattr__")))
    (mk_Hand : PySem.W.makesIn K A_Hand = true)
    (kc_Hand : PySem.W.keepIn K (.ref A_Hand) = true)
    (n_Hand__hand : PySem.W.findIn K (.ref A_Hand) "_hand" = some none)
    (n_Hand__plan : PySem.W.findIn K (.ref A_Hand) "_plan" = some none)
    (n_Hand__many : PySem.W.findIn K (.ref A_Hand) "_many" = some none)
    (n_Hand__ended : PySem.W.findIn K (.ref A_Hand) "_ended" = some none)
    (n_Hand__ones : PySem.W.findIn K (.ref A_Hand) "_ones" = some none)
    (n_Hand__took : PySem.W.findIn K (.ref A_Hand) "_took" = some none)
    (n_Hand__begin : PySem.W.findIn K (.ref A_Hand) "_begin" = some none)
    (n_Hand__outcome : PySem.W.findIn K (.ref A_Hand) "_outcome" = some none)
    (n_Hand__reading : PySem.W.findIn K (.ref A_Hand) "_reading" = some none)
    (n_Hand__readings : PySem.W.findIn K (.ref A_Hand) "_readings" = some none)
    (n_Hand_steps : PySem.W.findIn K (.ref A_Hand) "steps" = some none)
    (pg_Hall : PySem.W.plainGet K A_Hall Str.empty = true)
    (hd_Hall : PySem.W.hasDictIn K A_Hall = true)
    (po_Hall : PySem.W.plainOver K A_Hall = true)
    (sa_Hall : PySem.W.findIn K (.ref A_Hall) "__setattr__" = some (some (.builtin "object.__setattr__")))
    (mk_Hall : PySem.W.makesIn K A_Hall = true)
    (kc_Hall : PySem.W.keepIn K (.ref A_Hall) = true)
    (n_Hall__boxes : PySem.W.findIn K (.ref A_Hall) "_boxes" = some none)
    (n_Hall__hands : PySem.W.findIn K (.ref A_Hall) "_hands" = some none)
    (n_Hall__records : PySem.W.findIn K (.ref A_Hall) "_records" = some none)
    (n_Hall__marks : PySem.W.findIn K (.ref A_Hall) "_marks" = some none)
    (n_Hall__touches : PySem.W.findIn K (.ref A_Hall) "_touches" = some none)
    (z_abs : PySem.W.nsIn K mainGlobals "abs" = some none)
    (z_len : PySem.W.nsIn K mainGlobals "len" = some none)
    (z_max : PySem.W.nsIn K mainGlobals "max" = some none)
    (z_int : PySem.W.nsIn K mainGlobals "int" = some none)
    (z_range : PySem.W.nsIn K mainGlobals "range" = some none)
    (z_isinstance : PySem.W.nsIn K mainGlobals "isinstance" = some none)
    (z_bool : PySem.W.nsIn K mainGlobals "bool" = some none)
    (z_list : PySem.W.nsIn K mainGlobals "list" = some none)
    (z_ValueError : PySem.W.nsIn K mainGlobals "ValueError" = some none)
    (g_GREATEST : PySem.W.nsIn K mainGlobals "GREATEST" = some (some (.int 999 tG)))
    (g_MOST_HANDS : PySem.W.nsIn K mainGlobals "MOST_HANDS" = some (some (.int 4 tH)))
    (g_MOST_DEEDS : PySem.W.nsIn K mainGlobals "MOST_DEEDS" = some (some (.int 40 tD)))
    (g_THINGS : PySem.W.nsIn K mainGlobals "THINGS" = some (some (.int 5 tT)))
    : ∃ fd : FuncData, (∀ (s : Shared) (v : Value), BindsTo s fd ⟨[v], []⟩ [("_law_script", v)]) ∧ ∀ base : Heap, K.In base → base.Ns mainGlobals mg → FnOk l.prog w K mg base CX0 7 fa fd ["_law_script"] (spLaw K) := by
  have e := hfa.symm.trans (PySem.W.mg_of X G a16)
  cases e
  have T : Txt K mg w A_Boxes A_Hand A_Hall A_HandsError A_NoNumber A_NoBox A_NoHand A_NoDeed A_THING_OF A_WITH_A_NUMBER tT tG tH tD :=
    { m_HandsError := PySem.W.mg_of X G a_HandsError,
      m_NoNumber := PySem.W.mg_of X G a_NoNumber,
      m_NoBox := PySem.W.mg_of X G a_NoBox,
      m_NoHand := PySem.W.mg_of X G a_NoHand,
      m_NoDeed := PySem.W.mg_of X G a_NoDeed,
      k_THING_OF := ⟨PySem.W.mg_of X G a_THING_OF, ⟨_, _, l_THING_OF, kk_THING_OF⟩, lo_THING_OF, (by
        intro p hp
        simp only [Sd.kvThing, Sd.noThing, List.mem_cons, List.not_mem_nil, or_false] at hp
        rcases hp with rfl | rfl | rfl | rfl | rfl | rfl | rfl | rfl | rfl | rfl
        all_goals first | exact ⟨_, v0_THING_OF⟩ | exact ⟨_, v1_THING_OF⟩ | exact ⟨_, v2_THING_OF⟩ | exact ⟨_, v3_THING_OF⟩ | exact ⟨_, v4_THING_OF⟩ | exact ⟨_, v5_THING_OF⟩ | exact ⟨_, v6_THING_OF⟩ | exact ⟨_, v7_THING_OF⟩ | exact ⟨_, v8_THING_OF⟩ | exact ⟨_, v9_THING_OF⟩), (by
        intro p hp
        simp only [Sd.kvThing, Sd.noThing, List.mem_cons, List.not_mem_nil, or_false] at hp
        rcases hp with rfl | rfl | rfl | rfl
        all_goals first | exact w0_THING_OF | exact w1_THING_OF | exact w2_THING_OF | exact w3_THING_OF)⟩,
      k_WITH_A_NUMBER := ⟨PySem.W.mg_of X G a_WITH_A_NUMBER, ⟨_, _, _, l_WITH_A_NUMBER, rfl, rfl, by show 4 ≤ sizeLine; decide, (.cons ⟨_, rfl⟩ (.cons ⟨_, rfl⟩ (.cons ⟨_, rfl⟩ (.cons ⟨_, rfl⟩ (.nil)))))⟩⟩,
      r_NoHand := ⟨x_NoHand, k_NoHand, b_NoHand, t_NoHand, bS_NoHand, hS_NoHand, tS_NoHand, u_NoHand, ⟨e1_NoHand, e2_NoHand, b_NoHand, e3_NoHand, e4_NoHand, e5_NoHand, e6_NoHand, e7_NoHand⟩, me_NoHand, ve_NoHand, su_NoHand, fun o ho => by cases ho⟩,
      r_NoDeedS := ⟨x_NoDeedS, k_NoDeedS, b_NoDeedS, t_NoDeedS, bS_NoDeedS, hS_NoDeedS, tS_NoDeedS, u_NoDeedS, ⟨e1_NoDeedS, e2_NoDeedS, b_NoDeedS, e3_NoDeedS, e4_NoDeedS, e5_NoDeedS, e6_NoDeedS, e7_NoDeedS⟩, me_NoDeedS, ve_NoDeedS, su_NoDeedS, fun o ho => by cases ho⟩,
      r_NoDeed := ⟨x_NoDeed, k_NoDeed, b_NoDeed, t_NoDeed, bS_NoDeed, hS_NoDeed, tS_NoDeed, u_NoDeed, ⟨e1_NoDeed, e2_NoDeed, b_NoDeed, e3_NoDeed, e4_NoDeed, e5_NoDeed, e6_NoDeed, e7_NoDeed⟩, me_NoDeed, ve_NoDeed, su_NoDeed, fun o ho => by
        simp only [List.mem_cons, List.not_mem_nil, or_false] at ho
        rcases ho with rfl | rfl | rfl
        all_goals assumption⟩,
      abs := PySem.W.mg_none_of X G z_abs,
      len := PySem.W.mg_none_of X G z_len,
      max := PySem.W.mg_none_of X G z_max,
      int := PySem.W.mg_none_of X G z_int,
      range := PySem.W.mg_none_of X G z_range,
      isinstance := PySem.W.mg_none_of X G z_isinstance,
      bool := PySem.W.mg_none_of X G z_bool,
      list := PySem.W.mg_none_of X G z_list,
      ValueError := PySem.W.mg_none_of X G z_ValueError,
      m_GREATEST := PySem.W.mg_of X G g_GREATEST,
      m_MOST_HANDS := PySem.W.mg_of X G g_MOST_HANDS,
      m_MOST_DEEDS := PySem.W.mg_of X G g_MOST_DEEDS,
      m_THINGS := PySem.W.mg_of X G g_THINGS,
      m_Boxes := PySem.W.mg_of X G a_Boxes,
      cl_Boxes := ⟨pg_Boxes, hd_Boxes, po_Boxes, sa_Boxes⟩,
      n_Boxes__numbers := n_Boxes__numbers,
      m_Hand := PySem.W.mg_of X G a_Hand,
      cl_Hand := ⟨pg_Hand, hd_Hand, po_Hand, sa_Hand⟩,
      n_Hand__hand := n_Hand__hand,
      n_Hand__plan := n_Hand__plan,
      n_Hand__many := n_Hand__many,
      n_Hand__ended := n_Hand__ended,
      n_Hand__ones := n_Hand__ones,
      n_Hand__took := n_Hand__took,
      n_Hand__begin := n_Hand__begin,
      n_Hand__outcome := n_Hand__outcome,
      n_Hand__reading := n_Hand__reading,
      n_Hand__readings := n_Hand__readings,
      n_Hand_steps := n_Hand_steps,
      m_Hall := PySem.W.mg_of X G a_Hall,
      cl_Hall := ⟨pg_Hall, hd_Hall, po_Hall, sa_Hall⟩,
      n_Hall__boxes := n_Hall__boxes,
      n_Hall__hands := n_Hall__hands,
      n_Hall__records := n_Hall__records,
      n_Hall__marks := n_Hall__marks,
      n_Hall__touches := n_Hall__touches }
  have F1 := fun_mk (st := s_l_cell) l1 c1 k1
  have B1 := F1.binds (ps := ["_law_script", "_law_k"]) fun _ _ _ _ _ _ us hl => match us, hl with | [_, _], _ => rfl
  have F2 := fun_mk (st := s_l_dice) l2 c2 k2
  have B2 := F2.binds (ps := ["_law_script", "_law_k"]) fun _ _ _ _ _ _ us hl => match us, hl with | [_, _], _ => rfl
  have F3 := fun_mk (st := s_l_off) l3 c3 k3
  have B3 := F3.binds (ps := ["_law_d", "_law_most"]) fun _ _ _ _ _ _ us hl => match us, hl with | [_, _], _ => rfl
  have F4 := fun_mk (st := s_l_deed) l4 c4 k4
  have B4 := F4.binds (ps := ["_law_d", "_law_word"]) fun _ _ _ _ _ _ us hl => match us, hl with | [_, _], _ => rfl
  have F5 := fun_mk (st := s__need_number) l5 c5 k5
  have B5 := F5.binds (ps := ["deed"]) fun _ _ _ _ _ _ us hl => match us, hl with | [_], _ => rfl
  have F6 := fun_mk (st := s_need_deed) l6 c6 k6
  have B6 := F6.binds (ps := ["deed", "hand"]) fun _ _ _ _ _ _ us hl => match us, hl with | [_, _], _ => rfl
  have F7 := fun_mk (st := s_Boxes__init_) l7 c7 k7
  have B7 := F7.binds (ps := ["self", "many"]) fun _ _ _ _ _ _ us hl => match us, hl with | [_, _], _ => rfl
  have F8 := fun_mk (st := s_Hand__init_) l8 c8 k8
  have B8 := F8.binds (ps := ["self", "hand", "plan", "many"]) fun _ _ _ _ _ _ us hl => match us, hl with | [_, _, _, _], _ => rfl
  have F9 := fun_mk (st := s__need_plans) l9 c9 k9
  have B9 := F9.binds (ps := ["plans"]) fun _ _ _ _ _ _ us hl => match us, hl with | [_], _ => rfl
  have F10 := fun_mk (st := s_Hall__init_) l10 c10 k10
  have B10 := F10.binds (ps := ["self", "plans"]) fun _ _ _ _ _ _ us hl => match us, hl with | [_, _], _ => rfl
  have F11 := fun_mk (st := s_Hall_records) l11 c11 k11
  have B11 := F11.binds (ps := ["self"]) fun _ _ _ _ _ _ us hl => match us, hl with | [_], _ => rfl
  have F12 := fun_mk (st := s_l_plans) l12 c12 k12
  have B12 := F12.binds (ps := ["_law_d", "_law_many", "_law_words", "_law_most"]) fun _ _ _ _ _ _ us hl => match us, hl with | [_, _, _, _], _ => rfl
  have F13 := fun_mk (st := s_l_refused) l13 c13 k13
  have B13 := F13.binds (ps := ["_law_deed_here", "_law_hand"]) fun _ _ _ _ _ _ us hl => match us, hl with | [_, _], _ => rfl
  have F14 := fun_mk (st := s_l_no_hall) l14 c14 k14
  have B14 := F14.binds (ps := ["_law_plans_here"]) fun _ _ _ _ _ _ us hl => match us, hl with | [_], _ => rfl
  have F15 := fun_mk (st := s_l_odd) l15 c15 k15
  have B15 := F15.binds (ps := ["_law_d"]) fun _ _ _ _ _ _ us hl => match us, hl with | [_], _ => rfl
  have F16 := fun_mk (st := s_law) l16 c16 k16
  have B16 := F16.binds (ps := ["_law_script"]) fun _ _ _ _ _ _ us hl => match us, hl with | [_], _ => rfl
  refine ⟨PySem.W.fnOf "law" "law" (defArgs s_law) (defBody s_law) (defScope s_law) .none kV16 dc16 pm16 an16 cd16 ct16, fun s v => .of_eq rfl, fun base _ _ => ?_⟩
  have C_l_cell : Sd.Cal l.prog w K mg base CX0 1 "_law_cell" ["_law_script", "_law_k"] (Sd.spCell K) := Sd.Cal.mk' F1 (PySem.W.mg_of X G a1) B1 (ok_l_cell F1 T.toDr)
  have C_l_dice : Sd.Cal l.prog w K mg base CX0 2 "_law_dice" ["_law_script", "_law_k"] (Sd.spDice K) := Sd.Cal.mk' F2 (PySem.W.mg_of X G a2) B2 (ok_l_dice F2 T.toDr C_l_cell)
  have C_l_off : Sd.Cal l.prog w K mg base CX0 2 "_law_off" ["_law_d", "_law_most"] (Sd.spOff K) := Sd.Cal.mk' F3 (PySem.W.mg_of X G a3) B3 (ok_l_off F3 T.toDr C_l_cell)
  have C_l_deed : Sd.Cal l.prog w K mg base CX0 3 "_law_deed" ["_law_d", "_law_word"] (Sd.spLDeed K) := Sd.Cal.mk' F4 (PySem.W.mg_of X G a4) B4 (ok_l_deed F4 T.toDr C_l_off)
  have C__need_number : Sd.Cal l.prog w K mg base (L2.CX l.prog w) 1 "_need_number" ["deed"] (Sd.spNN A_NoDeed) := Sd.Cal.mk' F5 (PySem.W.mg_of X G a5) B5 (ok__need_number F5 T)
  have C_need_deed : Sd.Cal l.prog w K mg base (L2.CX l.prog w) 2 "need_deed" ["deed", "hand"] (Sd.spNeedDeed A_NoDeed) := Sd.Cal.mk' F6 (PySem.W.mg_of X G a6) B6 (ok_need_deed F6 T C__need_number)
  have C_Boxes : Sd.CalI l.prog w K mg base CX0 1 "Boxes" A_Boxes ["self", "many"] (Sd.spBInit A_Boxes) := Sd.CalI.mk' F7 (PySem.W.mg_of X G a_Boxes) ⟨mk_Boxes, a7, i7, kc_Boxes⟩ B7 (ok_Boxes__init_ F7 T)
  have C_Hand : Sd.CalI l.prog w K mg base CX0 1 "Hand" A_Hand ["self", "hand", "plan", "many"] (Sd.spHandInit A_Hand) := Sd.CalI.mk' F8 (PySem.W.mg_of X G a_Hand) ⟨mk_Hand, a8, i8, kc_Hand⟩ B8 (ok_Hand__init_ F8 T)
  have C__need_plans : Sd.Cal l.prog w K mg base (L2.CX l.prog w) 3 "_need_plans" ["plans"] (Sd.spNeedPlans A_NoHand A_NoDeed) := Sd.Cal.mk' F9 (PySem.W.mg_of X G a9) B9 (ok__need_plans F9 T C_need_deed)
  have C_Hall : Sd.CalI l.prog w K mg base (L2.CX l.prog w) 4 "Hall" A_Hall ["self", "plans"] (Sd.spHallInit A_Boxes A_Hand A_Hall A_NoHand A_NoDeed) := Sd.CalI.mk' F10 (PySem.W.mg_of X G a_Hall) ⟨mk_Hall, a10, i10, kc_Hall⟩ B10 (ok_Hall__init_ F10 T C__need_plans C_Boxes C_Hand)
  have C_Hall_records : Sd.CalM l.prog w K mg base CX0 1 A_Hall "records" ["self"] (Sd.spRecords A_Boxes A_Hand A_Hall) := Sd.CalM.mk' F11 T.cl_Hall ⟨a11, i11, k11⟩ B11 (ok_Hall_records F11 T)
  have C_l_plans : Sd.Cal l.prog w K mg base CX0 4 "_law_plans" ["_law_d", "_law_many", "_law_words", "_law_most"] (Sd.spPlans K) := Sd.Cal.mk' F12 (PySem.W.mg_of X G a12) B12 (ok_l_plans F12 T C_l_off C_l_deed)
  have C_l_refused : Sd.Cal l.prog w K mg base CX0 3 "_law_refused" ["_law_deed_here", "_law_hand"] (Sd.spRefusedD) := Sd.Cal.mk' F13 (PySem.W.mg_of X G a13) B13 (ok_l_refused F13 T C_need_deed)
  have C_l_no_hall : Sd.Cal l.prog w K mg base CX0 6 "_law_no_hall" ["_law_plans_here"] (Sd.spNoHall) := Sd.Cal.mk' F14 (PySem.W.mg_of X G a14) B14 (ok_l_no_hall F14 T C_Hall)
  have C_l_odd : Sd.Cal l.prog w K mg base CX0 3 "_law_odd" ["_law_d"] (Sd.spOdd K) := Sd.Cal.mk' F15 (PySem.W.mg_of X G a15) B15 (ok_l_odd F15 T C_l_off)
  exact ok_law F16 T C_l_cell C_l_dice C_l_deed C_need_deed C_l_refused C_l_odd C_l_plans C_l_no_hall C_Hall C_Hall_records
theorem walk {l : PySem.W.OpenLaw} {q : Program} {loose : List Str} {XP : (Str → Option Value) → Heap → Prop} {YP : World → Heap → Prop} {d : DefRec} {K : Params → PySem.W.Frag} (hn : l.most = some 63) (hdf : d.params.defaults = [])
    (hY : ∀ (w : World) (h : Heap), YP w h → (K w.params).In h)
    (F : ∀ (w : World) (mg : Str → Option Value) (fa : Addr) (h : Heap), (K w.params).In h → h.Ns mainGlobals mg → mg d.name = some (.ref fa) →
      ∃ fd : FuncData, (∀ (s : Shared) (u : Value), BindsTo s fd ⟨[u], []⟩ [("_law_script", u)]) ∧ ∀ base : Heap, (K w.params).In base → base.Ns mainGlobals mg → FnOk l.prog w (K w.params) mg base CX0 7 fa fd ["_law_script"] (spLaw (K w.params))) :
    PySem.W.WalkO q loose XP YP l.row.toRowW d [] (fun f vs => PySem.call f vs) :=
  L2.walk_of (n := 63) (k := 7) (x := "_law_script") (CX := fun _ => CX0) (sp := fun w => spLaw (K w.params)) hn (by decide) hdf ⟨rfl, by decide, by decide⟩ hY F (fun _ _ a ns hl _ hS => ⟨a, ns, rfl, hS, hl, fun _ => rfl⟩) fun _ _ _ _ _ z => z
end K05
open PySem PySem.W PyProof.Rows in
set_option maxRecDepth 100000 in
set_option maxHeartbeats 0 in
theorem PySem.Challenge.cw_stillhands_k05_deeds_that_are_none_holds : PySem.Challenge.rw_stillhands_k05_deeds_that_are_none.Holds := by
  w_on; o_law; k_head; (case hw => w_witness2)
  k_fill
  refine K05.walk (l := PySem.Challenge.rw_stillhands_k05_deeds_that_are_none) rfl rfl (fun w h Y => PySem.W.kIn_of Y) ?F
  case F =>
    intro w mg fa h KX G hmg
    refine' K05.all_mk KX G hmg ?a_Boxes ?a_Hand ?a_Hall ?a_HandsError ?a_NoNumber ?a_NoBox ?a_NoHand ?a_NoDeed ?a_THING_OF ?l_THING_OF ?kk_THING_OF ?lo_THING_OF ?v0_THING_OF ?v1_THING_OF ?v2_THING_OF ?v3_THING_OF ?v4_THING_OF ?v5_THING_OF ?v6_THING_OF ?v7_THING_OF ?v8_THING_OF ?v9_THING_OF ?w0_THING_OF ?w1_THING_OF ?w2_THING_OF ?w3_THING_OF ?a_WITH_A_NUMBER ?l_WITH_A_NUMBER ?x_NoHand ?k_NoHand ?b_NoHand ?t_NoHand ?bS_NoHand ?hS_NoHand ?tS_NoHand ?u_NoHand ?e1_NoHand ?e2_NoHand ?e3_NoHand ?e4_NoHand ?e5_NoHand ?e6_NoHand ?e7_NoHand ?me_NoHand ?ve_NoHand ?su_NoHand ?x_NoDeedS ?k_NoDeedS ?b_NoDeedS ?t_NoDeedS ?bS_NoDeedS ?hS_NoDeedS ?tS_NoDeedS ?u_NoDeedS ?e1_NoDeedS ?e2_NoDeedS ?e3_NoDeedS ?e4_NoDeedS ?e5_NoDeedS ?e6_NoDeedS ?e7_NoDeedS ?me_NoDeedS ?ve_NoDeedS ?su_NoDeedS ?x_NoDeed ?k_NoDeed ?b_NoDeed ?t_NoDeed ?bS_NoDeed ?hS_NoDeed ?tS_NoDeed ?u_NoDeed ?e1_NoDeed ?e2_NoDeed ?e3_NoDeed ?e4_NoDeed ?e5_NoDeed ?e6_NoDeed ?e7_NoDeed ?me_NoDeed ?ve_NoDeed ?su_NoDeed ?no_NoDeed_NoBox ?no_NoDeed_NoNumber ?no_NoDeed_NoHand ?a1 ?l1 ?c1 ?k1 ?a2 ?l2 ?c2 ?k2 ?a3 ?l3 ?c3 ?k3 ?a4 ?l4 ?c4 ?k4 ?a5 ?l5 ?c5 ?k5 ?a6 ?l6 ?c6 ?k6 ?a7 ?i7 ?l7 ?c7 ?k7 ?a8 ?i8 ?l8 ?c8 ?k8 ?a9 ?l9 ?c9 ?k9 ?a10 ?i10 ?l10 ?c10 ?k10 ?a11 ?i11 ?l11 ?c11 ?k11 ?a12 ?l12 ?c12 ?k12 ?a13 ?l13 ?c13 ?k13 ?a14 ?l14 ?c14 ?k14 ?a15 ?l15 ?c15 ?k15 ?a16 ?l16 ?c16 ?k16 ?pg_Boxes ?hd_Boxes ?po_Boxes ?sa_Boxes ?mk_Boxes ?kc_Boxes ?n_Boxes__numbers ?pg_Hand ?hd_Hand ?po_Hand ?sa_Hand ?mk_Hand ?kc_Hand ?n_Hand__hand ?n_Hand__plan ?n_Hand__many ?n_Hand__ended ?n_Hand__ones ?n_Hand__took ?n_Hand__begin ?n_Hand__outcome ?n_Hand__reading ?n_Hand__readings ?n_Hand_steps ?pg_Hall ?hd_Hall ?po_Hall ?sa_Hall ?mk_Hall ?kc_Hall ?n_Hall__boxes ?n_Hall__hands ?n_Hall__records ?n_Hall__marks ?n_Hall__touches ?z_abs ?z_len ?z_max ?z_int ?z_range ?z_isinstance ?z_bool ?z_list ?z_ValueError ?g_GREATEST ?g_MOST_HANDS ?g_MOST_DEEDS ?g_THINGS
    (case a_Boxes => k_is)
    (case a_Hand => k_is)
    (case a_Hall => k_is)
    (case a_HandsError => k_is)
    (case a_NoNumber => k_is)
    (case a_NoBox => k_is)
    (case a_NoHand => k_is)
    (case a_NoDeed => k_is)
    (case a_THING_OF => k_is)
    (case l_THING_OF => k_is)
    (case kk_THING_OF => k_keys)
    (case lo_THING_OF => decide)
    (case v0_THING_OF => k_is)
    (case v1_THING_OF => k_is)
    (case v2_THING_OF => k_is)
    (case v3_THING_OF => k_is)
    (case v4_THING_OF => k_is)
    (case v5_THING_OF => k_is)
    (case v6_THING_OF => k_is)
    (case v7_THING_OF => k_is)
    (case v8_THING_OF => k_is)
    (case v9_THING_OF => k_is)
    (case w0_THING_OF => k_is)
    (case w1_THING_OF => k_is)
    (case w2_THING_OF => k_is)
    (case w3_THING_OF => k_is)
    (case a_WITH_A_NUMBER => k_is)
    (case l_WITH_A_NUMBER => k_is)
    (case x_NoHand => k_exc)
    (case k_NoHand => k_is)
    (case b_NoHand => k_is)
    (case t_NoHand => k_is)
    (case bS_NoHand => k_is)
    (case hS_NoHand => k_is)
    (case tS_NoHand => k_is)
    (case u_NoHand => k_is)
    (case e1_NoHand => k_is)
    (case e2_NoHand => k_is)
    (case e3_NoHand => k_is)
    (case e4_NoHand => k_is)
    (case e5_NoHand => k_is)
    (case e6_NoHand => k_is)
    (case e7_NoHand => k_is)
    (case me_NoHand => kit_is)
    (case ve_NoHand => kit_is)
    (case su_NoHand => kit_is)
    (case x_NoDeedS => k_exc)
    (case k_NoDeedS => k_is)
    (case b_NoDeedS => k_is)
    (case t_NoDeedS => k_is)
    (case bS_NoDeedS => k_is)
    (case hS_NoDeedS => k_is)
    (case tS_NoDeedS => k_is)
    (case u_NoDeedS => k_is)
    (case e1_NoDeedS => k_is)
    (case e2_NoDeedS => k_is)
    (case e3_NoDeedS => k_is)
    (case e4_NoDeedS => k_is)
    (case e5_NoDeedS => k_is)
    (case e6_NoDeedS => k_is)
    (case e7_NoDeedS => k_is)
    (case me_NoDeedS => kit_is)
    (case ve_NoDeedS => kit_is)
    (case su_NoDeedS => kit_is)
    (case x_NoDeed => k_exc)
    (case k_NoDeed => k_is)
    (case b_NoDeed => k_is)
    (case t_NoDeed => k_is)
    (case bS_NoDeed => k_is)
    (case hS_NoDeed => k_is)
    (case tS_NoDeed => k_is)
    (case u_NoDeed => k_is)
    (case e1_NoDeed => k_is)
    (case e2_NoDeed => k_is)
    (case e3_NoDeed => k_is)
    (case e4_NoDeed => k_is)
    (case e5_NoDeed => k_is)
    (case e6_NoDeed => k_is)
    (case e7_NoDeed => k_is)
    (case me_NoDeed => kit_is)
    (case ve_NoDeed => kit_is)
    (case su_NoDeed => kit_is)
    (case no_NoDeed_NoBox => kit_is)
    (case no_NoDeed_NoNumber => kit_is)
    (case no_NoDeed_NoHand => kit_is)
    (case a1 => k_is)
    (case l1 => k_is)
    (case c1 => k_is)
    (case k1 => k_is)
    (case a2 => k_is)
    (case l2 => k_is)
    (case c2 => k_is)
    (case k2 => k_is)
    (case a3 => k_is)
    (case l3 => k_is)
    (case c3 => k_is)
    (case k3 => k_is)
    (case a4 => k_is)
    (case l4 => k_is)
    (case c4 => k_is)
    (case k4 => k_is)
    (case a5 => k_is)
    (case l5 => k_is)
    (case c5 => k_is)
    (case k5 => k_is)
    (case a6 => k_is)
    (case l6 => k_is)
    (case c6 => k_is)
    (case k6 => k_is)
    (case a7 => k_is)
    (case i7 => k_is)
    (case l7 => k_is)
    (case c7 => k_is)
    (case k7 => k_is)
    (case a8 => k_is)
    (case i8 => k_is)
    (case l8 => k_is)
    (case c8 => k_is)
    (case k8 => k_is)
    (case a9 => k_is)
    (case l9 => k_is)
    (case c9 => k_is)
    (case k9 => k_is)
    (case a10 => k_is)
    (case i10 => k_is)
    (case l10 => k_is)
    (case c10 => k_is)
    (case k10 => k_is)
    (case a11 => k_is)
    (case i11 => k_is)
    (case l11 => k_is)
    (case c11 => k_is)
    (case k11 => k_is)
    (case a12 => k_is)
    (case l12 => k_is)
    (case c12 => k_is)
    (case k12 => k_is)
    (case a13 => k_is)
    (case l13 => k_is)
    (case c13 => k_is)
    (case k13 => k_is)
    (case a14 => k_is)
    (case l14 => k_is)
    (case c14 => k_is)
    (case k14 => k_is)
    (case a15 => k_is)
    (case l15 => k_is)
    (case c15 => k_is)
    (case k15 => k_is)
    (case a16 => k_is)
    (case l16 => k_is)
    (case c16 => k_is)
    (case k16 => k_is)
    (case pg_Boxes => k_is)
    (case hd_Boxes => k_is)
    (case po_Boxes => k_is)
    (case sa_Boxes => k_is)
    (case mk_Boxes => k_is)
    (case kc_Boxes => k_is)
    (case n_Boxes__numbers => k_is)
    (case pg_Hand => k_is)
    (case hd_Hand => k_is)
    (case po_Hand => k_is)
    (case sa_Hand => k_is)
    (case mk_Hand => k_is)
    (case kc_Hand => k_is)
    (case n_Hand__hand => k_is)
    (case n_Hand__plan => k_is)
    (case n_Hand__many => k_is)
    (case n_Hand__ended => k_is)
    (case n_Hand__ones => k_is)
    (case n_Hand__took => k_is)
    (case n_Hand__begin => k_is)
    (case n_Hand__outcome => k_is)
    (case n_Hand__reading => k_is)
    (case n_Hand__readings => k_is)
    (case n_Hand_steps => k_is)
    (case pg_Hall => k_is)
    (case hd_Hall => k_is)
    (case po_Hall => k_is)
    (case sa_Hall => k_is)
    (case mk_Hall => k_is)
    (case kc_Hall => k_is)
    (case n_Hall__boxes => k_is)
    (case n_Hall__hands => k_is)
    (case n_Hall__records => k_is)
    (case n_Hall__marks => k_is)
    (case n_Hall__touches => k_is)
    (case z_abs => k_is)
    (case z_len => k_is)
    (case z_max => k_is)
    (case z_int => k_is)
    (case z_range => k_is)
    (case z_isinstance => k_is)
    (case z_bool => k_is)
    (case z_list => k_is)
    (case z_ValueError => k_is)
    (case g_GREATEST => k_is)
    (case g_MOST_HANDS => k_is)
    (case g_MOST_DEEDS => k_is)
    (case g_THINGS => k_is)
