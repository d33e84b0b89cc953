import PyProof.Rows.All
import Wide.All
import OpenK.AllK
import Wide.FinOn
import HandS.ForMost
import HandS.ForExc
import HandS.Rev
import HandS.IsInst
import HandS.ExcIs
import HandS.Codes
import HandS.SortKw
import HandS.More
import HandS.DictTup
import HandS.CallRecv
import KE.RegKIsAll
import KE.SortData
import KE.DataMinMax
import KE.DatumOrd
import HandS.TupAny
import HandS.TupMul
import HandS.Conv
import HandS.Iter
import HandS.RevRange
import HandS.SortInts
import KE.KDictCopyH
import HandS.Flow
import HandS.NoneIn
import HandS.Lambda
import HandS.EndOwn
import PySem.Challenge.RW_stillhands_k07_a_hall_begun
set_option Elab.async false
set_option linter.all false
set_option maxRecDepth 100000
set_option maxHeartbeats 4000000
/-! words of mine over the hand layer: a def that the module holds under a name (Cal), its call; lists; the draws of a script -/
namespace Sd
open PySem L2
/-- the module's name x holds a def that keeps sp -/
structure Cal (P : Program) (w : World) (K : PySem.W.Frag) (mg : Str → Option Value) (base : Heap) (CX : CXT) (k : Nat) (x : Str) (ps : List Str) (sp : Sp) : Prop where
  ex : ∃ f fd, mg x = some (.ref f) ∧ PySem.W.keepIn K (.ref f) = true ∧ Binds K fd ps [] ∧ FnOk P w K mg base CX k f fd ps sp
section
variable {X : Cx} {CX : CXT} {k : Nat} {ps : List Str} {sp : Sp} {E : XK} {x : Str} {p pos : Pos} {e : Expr} {es : List Expr} {t : TA}
theorem pe_fn (c : Cal X.prog X.w X.K X.mg X.base CX k x ps sp) (hr : Room k X.A) (hx : Passes CX X E) (ha : PA X (e :: es) t) (hg : Gl X x := by rfl)
    (hdb : (x == ("__debug__" : Str)) = false := by decide) (he : starEach (e :: es) X.env = (false, eval e X.env) :: starEach es X.env := by rfl) (hpl : (backTo pos (starEach es X.env)).any (·.1) = false := by rfl) :
    PE X (.Call (.Name x p) (e :: es) [] pos) (tCall sp [] E t) := by
  obtain ⟨f, fd, hm, hk, hb, F⟩ := c.ex
  exact pe_call F hr hg hm hk hb .nil hx ha hdb he hpl
theorem pe_fn0 (c : Cal X.prog X.w X.K X.mg X.base CX k x ps sp) (hr : Room k X.A) (hx : Passes CX X E) (hg : Gl X x := by rfl)
    (hdb : (x == ("__debug__" : Str)) = false := by decide) : PE X (.Call (.Name x p) [] [] pos) (tCall sp [] E tNil) := by
  obtain ⟨f, fd, hm, hk, hb, F⟩ := c.ex
  exact pe_call0 F hr hg hm hk hb .nil hx hdb
end
theorem Cal.mk' {P : Program} {w : World} {K : PySem.W.Frag} {mg : Str → Option Value} {base : Heap} {CX : CXT} {k : Nat} {x q : Str} {st : Stmt} {f : Addr} {fd : FuncData} {ps : List Str} {sp : Sp}
    (F : Fun K x q st f fd) (hm : mg x = some (.ref f)) (b : Binds K fd ps []) (G : FnOk P w K mg base CX k f fd ps sp) : Cal P w K mg base CX k x ps sp := ⟨f, fd, hm, F.kp, b, G⟩

/-! ### heaps -/
/-- what was tracked stands, but for the object at d -/
def But (d : Addr) (H H' : Hp) : Prop := ∀ b o, b ≠ d → H b = some o → H' b = some o
theorem But.refl (d : Addr) (H : Hp) : But d H H := fun _ _ _ h => h
theorem But.trans {d : Addr} {H H1 H2 : Hp} (a : But d H H1) (b : But d H1 H2) : But d H H2 := fun c o n h => b c o n (a c o n h)
theorem But.upd {d : Addr} {H : Hp} {o : HO} : But d H (upd H d o) := fun b u n h => by
  rw [upd_ne n]
  exact h
theorem Same.but {d : Addr} {H H' : Hp} (s : Same H H') : But d H H' := fun b o _ h => s b o h
theorem Same.new {H : Hp} {p : Addr} {o : HO} (h : H p = none) : Same H (upd H p o) := fun b u e => by
  rw [upd_ne (ne_of_none e h)]
  exact e
theorem Same.new2 {H : Hp} {p : Addr} {o o2 : HO} (h : H p = none) : Same H (upd (upd H p o) p o2) := fun b u e => by
  rw [upd_ne (ne_of_none e h), upd_ne (ne_of_none e h)]
  exact e
theorem But.same {d : Addr} {H H' : Hp} (s : But d H H') (h : H d = none) : Same H H' := fun b o e => s b o (ne_of_none e h) e
/-- the heap H' tracks what it did, and at d what it says -/
theorem But.free {d : Addr} {H H' : Hp} (s : But d H H') {u : HO} (hd : H' d = some u) {l : Addr} (h : H' l = none) : H l = none := by
  cases q : H l with
  | none => rfl
  | some o =>
    have n : l ≠ d := fun z => by
      rw [z, hd] at h
      cases h
    rw [s l o n q] at h
    cases h
theorem SqL.new {K : PySem.W.Frag} {H : Hp} {a p : Addr} {xs : List V} {o : HO} (h : SqL K H a xs) (n : H p = none) : SqL K (upd H p o) a xs := Same.seq (Same.new n) h
theorem SqL.but {K : PySem.W.Frag} {H H' : Hp} {a d : Addr} {xs : List V} (h : SqL K H a xs) (s : But d H H') (n : a ≠ d ∨ H d = none) : SqL K H' a xs := by
  rcases n with n | n
  · rcases h with (h | ⟨o, h⟩) | h
    · exact .inl (.inl (s _ _ n h))
    · exact .inl (.inr ⟨o, s _ _ n h⟩)
    · exact .inr h
  · exact Same.seq (s.same n) h
/-- a list that holds the object p is no list of ints -/
theorem SqL.keep {K : PySem.W.Frag} {H H' : Hp} {a d : Addr} {xs ys : List V} (h : SqL K H a xs) (s : But d H H') (hd : H d = some (.lst ys)) (n : ys ≠ xs) : SqL K H' a xs := by
  rcases h with (h | ⟨o, h⟩) | h
  · refine .inl (.inl (s _ _ (fun z => ?_) h))
    rw [z, hd] at h
    exact n (by cases h; rfl)
  · refine .inl (.inr ⟨o, s _ _ (fun z => ?_) h⟩)
    rw [z, hd] at h
    cases h
  · exact .inr h

/-! ### lists of ints -/
theorem ints_get {ns : List Int} {j : Nat} {v : Int} (h : ns[j]? = some v) : (ns.map V.int)[j]? = some (.int v) := by
  rw [List.getElem?_map, h]
  rfl
theorem ints_got {ns : List Int} {j : Nat} {y : V} (h : (ns.map V.int)[j]? = some y) : ∃ v, ns[j]? = some v ∧ y = .int v := by
  rw [List.getElem?_map] at h
  cases e : ns[j]? with
  | none =>
    rw [e] at h
    cases h
  | some v =>
    rw [e] at h
    exact ⟨v, rfl, (Option.some.inj h).symm⟩
theorem ixN_nat {n j : Nat} (hj : j < n) : ixN n ((j : Nat) : Int) = some j := by
  unfold ixN
  rw [if_pos (Int.natCast_nonneg j), if_pos (by omega), Int.toNat_natCast]
theorem size1 {n : Int} (h0 : 0 ≤ n) (h1 : n ≤ 100000) : 1 * n.toNat ≤ sizeLine := Nat.le_trans (by omega : 1 * n.toNat ≤ 100000) (by decide)
def dInts (ns : List Int) : PyData := .list (ns.map PyData.int)
theorem dInts_all {K : PySem.W.Frag} {H : Hp} : ∀ ns : List Int, DpAll K H (ns.map V.int) (ns.map PyData.int)
  | [] => .nil
  | n :: r => .cons (.int n) (dInts_all r)
theorem dInts_dp {K : PySem.W.Frag} {H : Hp} {a : Addr} {ns : List Int} (h : SqL K H a (ns.map V.int)) : Dp K H (.ref a) (dInts ns) := .lst h (dInts_all ns)
theorem lay_ints : ∀ ns : List Int, PyData.canLayAll0 (ns.map PyData.int) = true
  | [] => rfl
  | n :: r => by
    have h := lay_ints r
    show (PyData.canLay0 (.int n) && PyData.canLayAll0 (r.map PyData.int)) = true
    rw [h]
    rfl
theorem depth_ints : ∀ ns : List Int, PyData.depthAll (ns.map PyData.int) = 0
  | [] => rfl
  | n :: r => by
    have h := depth_ints r
    show max (PyData.depth (.int n)) (PyData.depthAll (r.map PyData.int)) = 0
    rw [h]
    rfl
theorem dInts_shaped (ns : List Int) : SeqAt.shaped (dInts ns) = true := by
  have h1 : PyData.canLay0 (dInts ns) = true := lay_ints ns
  have h2 : PyData.depth (dInts ns) = PyData.depthAll (ns.map PyData.int) + 1 := rfl
  rw [depth_ints] at h2
  unfold SeqAt.shaped
  rw [h1, h2]
  rfl
theorem eqv_all : ∀ ns : List Int, PyData.eqvAll (ns.map PyData.int) (ns.map PyData.int) = true
  | [] => rfl
  | n :: r => by
    have h := eqv_all r
    show (PyData.eqv (.int n) (.int n) && PyData.eqvAll (r.map PyData.int) (r.map PyData.int)) = true
    rw [h]
    show ((n == n) && true) = true
    rw [beq_self_eq_true]
    rfl
theorem eqv_ints (ns : List Int) : PyData.eqv (dInts ns) (dInts ns) = true := eqv_all ns
/-- an if whose test is known -/
theorem if_no {c : Bool} {A B : Prop} (h : c = true) (q : B) : if (!c) = true then A else B := by
  rw [h]
  exact q
theorem if_yes {c : Bool} {A B : Prop} (h : c = true) (q : A) : if c = true then A else B := by
  rw [h]
  exact q
theorem if_not {c : Bool} {A B : Prop} (h : c = false) (q : B) : if c = true then A else B := by
  rw [h]
  exact q
theorem ty_int {K : PySem.W.Frag} {H : Hp} {i : Int} : TyX K H (.int i) (.type "int") := .base (.int i)
theorem ty_lst {K : PySem.W.Frag} {H : Hp} {a : Addr} {xs : List V} (h : H a = some (.lst xs)) : TyX K H (.ref a) (.type "list") := .base (.lst h)
/-- a list that stood where p was free stands when p's object is laid or changed -/
theorem SqL.upd0 {K : PySem.W.Frag} {H0 H : Hp} {a p : Addr} {xs : List V} {o : HO} (h0 : SqL K H0 a xs) (hp : H0 p = none) (h : SqL K H a xs) : SqL K (upd H p o) a xs := by
  rcases h0 with h0 | h0
  · have n : a ≠ p := by
      rcases h0 with h0 | ⟨u, h0⟩
      · exact ne_of_none h0 hp
      · exact ne_of_none h0 hp
    exact SqL.but h (But.upd (d := p)) (.inl n)
  · exact .inr h0
theorem rep_flat (n : Nat) (i : Int) : (List.replicate n [V.int i]).flatten = (List.replicate n i).map V.int := by
  induction n with
  | zero => rfl
  | succ n ih =>
    rw [List.replicate_succ, List.replicate_succ, List.flatten_cons, ih]
    rfl
/-- an instance that is made: what stood, stands -/
theorem made_same {H H' : Hp} {x dx : Addr} {u v : HO} (h1 : H x = none) (h2 : H dx = none) (b : But x (upd (upd H dx u) x v) H') : Same H H' := fun c o e => by
  have n1 : c ≠ x := ne_of_none e h1
  have n2 : c ≠ dx := ne_of_none e h2
  refine b c o n1 ?_
  rw [upd_ne n1, upd_ne n2]
  exact e
theorem made_free {H : Hp} {x dx l : Addr} {u v : HO} (h1 : H x = none) (h2 : H dx = none) (h : upd (upd H dx u) x v l = none) : H l = none := by
  cases q : H l with
  | none => rfl
  | some o =>
    have n1 : l ≠ x := ne_of_none q h1
    have n2 : l ≠ dx := ne_of_none q h2
    rw [upd_ne n1, upd_ne n2, q] at h
    cases h
/-- a list that stood where p was free stands whatever p's object becomes -/
theorem SqL.other {K : PySem.W.Frag} {H0 H H' : Hp} {a p : Addr} {xs : List V} (h0 : SqL K H0 a xs) (hp : H0 p = none) (h : SqL K H a xs) (s : But p H H') : SqL K H' a xs := by
  rcases h0 with h0 | h0
  · have n : a ≠ p := by
      rcases h0 with h0 | ⟨u, h0⟩
      · exact ne_of_none h0 hp
      · exact ne_of_none h0 hp
    exact SqL.but h s (.inl n)
  · exact .inr h0
end Sd

/-! words of mine for refusals: what is raised, caught and looked at -/
namespace Sd
open PySem L2
section
variable {X : Cx} {CX : CXT} {k : Nat} {ps : List Str} {sp : Sp} {E : St → XK} {x : Str} {p pos : Pos} {e : Expr} {es : List Expr} {t : TA}
/-- a call in a try: what is raised is wished for at the slots -/
theorem pe_fnS (c : Cal X.prog X.w X.K X.mg X.base CX k x ps sp) (hr : Room k X.A) (hx : ∀ σ, PassesAt CX X σ (E σ)) (ha : PA X (e :: es) t) (hg : Gl X x := by rfl)
    (hdb : (x == ("__debug__" : Str)) = false := by decide) (he : starEach (e :: es) X.env = (false, eval e X.env) :: starEach es X.env := by rfl) (hpl : (backTo pos (starEach es X.env)).any (·.1) = false := by rfl) :
    PE X (.Call (.Name x p) (e :: es) [] pos) (tCallS sp E t) := by
  obtain ⟨f, fd, hm, hk, hb, F⟩ := c.ex
  exact pe_callS F hr hg hm hk hb hx ha hdb he hpl
end
/-- the error class at C, caught by the clause's class at S, and none of the classes at os -/
structure Ref (K : PySem.W.Frag) (C S : Addr) (os : List Addr) : Prop where
  ex : PySem.W.excIn K C [.type "ValueError", .type "Exception", .type "BaseException", .type "object"] "ValueError.__new__" = true
  kp : PySem.W.keepIn K (.ref C) = true
  b : PySem.W.subIn K (.ref C) (.type "BaseException") = some true
  t : PySem.W.typeIn K (.ref C) = some (.type "type")
  bS : PySem.W.subIn K (.ref S) (.type "BaseException") = some true
  hS : PySem.W.hasDictIn K S = true
  tS : PySem.W.typeIn K (.ref S) = some (.type "type")
  sub : PySem.W.subIn K (.ref C) (.ref S) = some true
  ec : ExcC K C
  me : PySem.W.kitOne K (.ref C) (.ref C) = some true
  ve : PySem.W.kitOne K (.ref C) (.type "ValueError") = some true
  su : PySem.W.kitOne K (.ref C) (.ref S) = some true
  no : ∀ o ∈ os, PySem.W.kitOne K (.ref C) (.ref o) = some false
theorem Ref.caught {K : PySem.W.Frag} {C S : Addr} {os : List Addr} (r : Ref K C S os) : PySem.W.exmOne K (.ref C) (.ref S) = some true := PySem.W.exm_ref r.bS r.hS r.tS r.sub
theorem Ref.none {K : PySem.W.Frag} {C S : Addr} : ∀ {os : List Addr}, (∀ o ∈ os, PySem.W.kitOne K (.ref C) (.ref o) = some false) → PySem.W.kitAny K (.ref C) (os.map Value.ref) = some false
  | [], _ => kitAny_nil
  | o :: os, h => kitAny_cons (h o List.mem_cons_self) (fun _ => Ref.none (S := S) fun x hx => h x (List.mem_cons_of_mem _ hx)) (fun z => by cases z)
theorem clsAll : ∀ os : List Addr, Paired ClsV (os.map V.ref) (os.map Value.ref)
  | [] => .nil
  | o :: os => .cons (.own o) (clsAll os)
/-- isinstance(e, c), e what the suite holds: one class, a tuple of classes -/
def rIsX (K : PySem.W.Frag) (a : Addr) (cls : Value) (d : Option Addr) : List V → Hp → VK → Prop := fun xs H Q => ∃ (D : Addr) (c : V) (cv : Value) (b : Bool),
  xs = [.ref a, c] ∧ cls = .ref D ∧ d = Option.none ∧ ExcC K D ∧ ClsV c cv ∧ PySem.W.kitOne K (.ref D) cv = some b ∧ Q (.bl b) H
def rIsXT (K : PySem.W.Frag) (a : Addr) (cls : Value) (d : Option Addr) : List V → Hp → VK → Prop := fun xs H Q => ∃ (D tp : Addr) (cs : List V) (us : List Value) (b : Bool),
  xs = [.ref a, .ref tp] ∧ cls = .ref D ∧ d = Option.none ∧ ExcC K D ∧ H tp = some (.tup cs) ∧ Paired ClsV cs us ∧ PySem.W.kitAny K (.ref D) us = some b ∧ Q (.bl b) H
theorem call_isX {X : Cx} {a : Addr} {cls : Value} {d : Option Addr} {oe : Obj} {pn : List (Addr × Obj)} (hz : Zc cls d oe) (hf : ∃ vs, oe.data = .fields vs) : CallR (X.suite a ((a, oe) :: pn)) (.builtin "isinstance") (rIsX X.K a cls d) := by
  intro pins s σ H xs us Q I r h
  obtain ⟨D, c, cv, b, rfl, rfl, rfl, C, k, e, q⟩ := h
  exact call_isE C hz hf pins s σ H [.ref a, c] us Q I r ⟨c, cv, b, rfl, fun u ru => k.eq ru, e, q⟩
theorem call_isXT {X : Cx} {a : Addr} {cls : Value} {d : Option Addr} {oe : Obj} {pn : List (Addr × Obj)} (hz : Zc cls d oe) (hf : ∃ vs, oe.data = .fields vs) : CallR (X.suite a ((a, oe) :: pn)) (.builtin "isinstance") (rIsXT X.K a cls d) := by
  intro pins s σ H xs us Q I r h
  obtain ⟨D, tp, cs, ws, b, rfl, rfl, rfl, C, hT, k, e, q⟩ := h
  obtain ⟨u1, u2, rfl, r1, r2⟩ := vals2 r
  cases (show u1 = Value.ref a from r1)
  cases (show u2 = Value.ref tp from r2)
  obtain ⟨hget, _⟩ := I.pin (a, oe) (List.mem_append.mpr (.inl List.mem_cons_self))
  obtain ⟨vs, hv⟩ := hf
  have J : PySem.W.InstAt s.heap a oe D none := by
    obtain ⟨oc, od, oda, osl⟩ := oe
    obtain ⟨h1, h2⟩ := hz
    dsimp only at h1 h2 hv
    subst h1 h2 hv
    exact ⟨hget, rfl, rfl, trivial⟩
  obtain ⟨_, its, rv, o, h1, h2, n, h3⟩ := (show ObjOk X.prog X.w H s.heap tp (.tup cs) from I.hok tp _ hT)
  have e3 := ClsV.all k rv
  subst e3
  obtain ⟨oc, od, dt, sl⟩ := o
  simp only at h2 h3
  subst h2 h3
  exact PySem.W.kia_tup (PySem.W.handS_kitx_exc C.hg C.hk C.hs C.hd C.ha C.hn C.ht C.hm) I.kIn J h1 e (fun z => nomatch z) fun tk => ⟨.bl b, H, I.kept (t' := tk) fun _ _ z => z, rfl, q⟩
end Sd

/-! words of mine for classes: a method, a call of the class -/
namespace Sd
open PySem L2
structure CalM (P : Program) (w : World) (K : PySem.W.Frag) (mg : Str → Option Value) (base : Heap) (CX : CXT) (k : Nat) (C : Addr) (m : Str) (ps : List Str) (sp : Sp) : Prop where
  cl : Cls K C
  ex : ∃ f fd, Meth K C m f ∧ Binds K fd ps [] ∧ FnOk P w K mg base CX k f fd ps sp
structure CalI (P : Program) (w : World) (K : PySem.W.Frag) (mg : Str → Option Value) (base : Heap) (CX : CXT) (k : Nat) (x : Str) (C : Addr) (ps : List Str) (sp : Sp) : Prop where
  at_ : mg x = some (.ref C)
  ex : ∃ f fd, Mk K C f ∧ Binds K fd ps [] ∧ FnOk P w K mg base CX k f fd ps sp
section
variable {P : Program} {w : World} {K : PySem.W.Frag} {mg : Str → Option Value} {base : Heap} {CX : CXT} {k : Nat} {x q m : Str} {st : Stmt} {f C : Addr} {fd : FuncData} {ps : List Str} {sp : Sp}
theorem CalM.mk' (_ : Fun K m q st f fd) (c : Cls K C) (h : Meth K C m f) (b : Binds K fd ps []) (G : FnOk P w K mg base CX k f fd ps sp) : CalM P w K mg base CX k C m ps sp := ⟨c, f, fd, h, b, G⟩
theorem CalI.mk' (_ : Fun K m q st f fd) (hm : mg x = some (.ref C)) (h : Mk K C f) (b : Binds K fd ps []) (G : FnOk P w K mg base CX k f fd ps sp) : CalI P w K mg base CX k x C ps sp := ⟨hm, f, fd, h, b, G⟩
end
section
variable {X : Cx} {CX : CXT} {k : Nat} {C : Addr} {ps : List Str} {sp : Sp} {E : XK} {ES : St → XK} {x m : Str} {p pos apos : Pos} {e o : Expr} {es : List Expr} {ta : TE} {t : TA}
/-- how the text's call of a method goes: the object, the method found, its arguments -/
abbrev Goes (X : Cx) (o : Expr) (m : Str) (es : List Expr) (apos pos : Pos) (pl : Sem Bool) : Prop :=
  eval (.Call (.Attribute o m apos) es [] pos) X.env =
    (eval o X.env >>= fun v => standAt apos.atName >>= fun _ => holding [v] (getMethod v m pl) >>= fun g => callWith pos g.1 g.2 (backTo pos (starEach es X.env)) (backToKw pos (keywordEach [] X.env)))
theorem pe_mt {pl : Sem Bool} (c : CalM X.prog X.w X.K X.mg X.base CX k C m ps sp) (hr : Room k X.A) (hx : Passes CX X E) (he : PE X o ta) (ha : PA X (e :: es) t)
    (hst : starEach (e :: es) X.env = (false, eval e X.env) :: starEach es X.env := by rfl) (hpl : (backTo pos (starEach es X.env)).any (·.1) = false := by rfl)
    (ht : Goes X o m (e :: es) apos pos pl := by rfl) : PE X (.Call (.Attribute o m apos) (e :: es) [] pos) (tMeth C m sp [] E ta t) := by
  obtain ⟨f, fd, hm, hb, F⟩ := c.ex
  exact pe_meth he c.cl hm F hr hb .nil hx ha hst hpl ht
theorem pe_mt0 {pl : Sem Bool} (c : CalM X.prog X.w X.K X.mg X.base CX k C m ps sp) (hr : Room k X.A) (hx : Passes CX X E) (he : PE X o ta)
    (ht : Goes X o m [] apos pos pl := by rfl) : PE X (.Call (.Attribute o m apos) [] [] pos) (tMeth C m sp [] E ta tNil) := by
  obtain ⟨f, fd, hm, hb, F⟩ := c.ex
  exact pe_meth0 he c.cl hm F hr hb .nil hx ht
/-- .. in a try: what is raised is wished for at the slots -/
def tMtS (C : Addr) (m : Str) (sp : Sp) (E : St → XK) (ta : TE) (t : TA) : TE := fun σ H Q =>
  ta σ H fun x H1 => ∃ a dx fs, x = .ref a ∧ H1 a = some (.ins C dx fs) ∧ fs.lookup m = none ∧ t σ H1 fun vs H2 => sp (x :: vs) H2 Q (E σ)
theorem pe_mtS {pl : Sem Bool} (c : CalM X.prog X.w X.K X.mg X.base CX k C m ps sp) (hr : Room k X.A) (hx : ∀ σ, PassesAt CX X σ (ES σ)) (he : PE X o ta) (ha : PA X (e :: es) t)
    (hst : starEach (e :: es) X.env = (false, eval e X.env) :: starEach es X.env := by rfl) (hpl : (backTo pos (starEach es X.env)).any (·.1) = false := by rfl)
    (ht : Goes X o m (e :: es) apos pos pl := by rfl) : PE X (.Call (.Attribute o m apos) (e :: es) [] pos) (tMtS C m sp ES ta t) := by
  obtain ⟨f, fd, hm, hb, F⟩ := c.ex
  refine ⟨fun pins s σ H R I h => PySem.W.methodCall_KW (pl := pl) (thn (he.run pins s σ H _ I h) fun u s1 hh => ?_) ht⟩
  obtain ⟨y, H1, I1, ry, a, dx, fs, rfl, hins, hno, q⟩ := hh
  cases (show u = Value.ref a from ry)
  refine getmeth_ok I1 hins c.cl hm hno (PySem.W.callWith_K (first := [.ref a]) (h₀ := X.base) I.ok.mod.kin hm.kp (thn (ha.run pos pins s1 σ H1 _ I1 q) fun us s2 h2 => ?_) hst hpl)
  obtain ⟨vs, H2, I2, rv, q2⟩ := h2
  exact ⟨I2.kIn, run_fnS (us := .ref a :: us) (vs := .ref a :: vs) F hr hb (hx σ) I2 (.cons rfl rv) q2⟩
theorem pe_mk (c : CalI X.prog X.w X.K X.mg X.base CX k x C ps sp) (hr : Room (k + 1) X.A) (hx : Passes CX X E) (ha : PA X (e :: es) t) (hg : Gl X x := by rfl)
    (hdb : (x == ("__debug__" : Str)) = false := by decide) (he : starEach (e :: es) X.env = (false, eval e X.env) :: starEach es X.env := by rfl) (hpl : (backTo pos (starEach es X.env)).any (·.1) = false := by rfl) :
    PE X (.Call (.Name x p) (e :: es) [] pos) (tMake C sp [] E t) := by
  obtain ⟨f, fd, M, hb, F⟩ := c.ex
  exact pe_make M F hr hg c.at_ hb .nil hx ha hdb he hpl
theorem pe_mk0 (c : CalI X.prog X.w X.K X.mg X.base CX k x C ps sp) (hr : Room (k + 1) X.A) (hx : Passes CX X E) (hg : Gl X x := by rfl)
    (hdb : (x == ("__debug__" : Str)) = false := by decide) : PE X (.Call (.Name x p) [] [] pos) (tMake C sp [] E tNil) := by
  obtain ⟨f, fd, M, hb, F⟩ := c.ex
  exact pe_make0 M F hr hg c.at_ hb .nil hx hdb
end
end Sd

/-! written dicts and tuples -/
namespace Sd
open PySem L2
structure KD (K : PySem.W.Frag) (w : World) (mg : Str → Option Value) (x : Str) (A : Addr) (kv : List (Str × Int)) (no : List Str) : Prop where
  m : mg x = some (.ref A)
  lk : ∃ es n, K.lookup A = some ⟨.type "dict", none, .dict es n, #[]⟩ ∧ PySem.W.KeysLit w.params es.toList
  lo : (A == sysModules) = false
  at_ : ∀ p ∈ kv, ∃ t, PySem.W.nsIn K A p.1 = some (some (.int p.2 t))
  no_ : ∀ z ∈ no, PySem.W.nsIn K A z = some none
theorem KD.get {K : PySem.W.Frag} {w : World} {mg : Str → Option Value} {x : Str} {A : Addr} {kv : List (Str × Int)} {no : List Str} (k : KD K w mg x A kv no) {z : Str} {v : Int} (h : (z, v) ∈ kv) : KDct K w A z (.int v) := by
  obtain ⟨es, n, h1, h2⟩ := k.lk
  obtain ⟨t, h3⟩ := k.at_ _ h
  exact ⟨es, n, .int v t, h1, h2, h3, ⟨t, rfl⟩⟩
structure KT (K : PySem.W.Frag) (mg : Str → Option Value) (x : Str) (A : Addr) (ws : List Str) : Prop where
  m : mg x = some (.ref A)
  sq : ∃ (o : Obj) (its : Array Value) (n : Nat), K.lookup A = some o ∧ o.cls = .type "tuple" ∧ o.data = .seq its n ∧ its.size ≤ sizeLine ∧ Vals (ws.map V.str) its.toList
theorem KT.at_ {K : PySem.W.Frag} {mg : Str → Option Value} {x : Str} {A : Addr} {ws : List Str} (k : KT K mg x A ws) (H : Hp) : SqT K H A (ws.map V.str) := .inr k.sq
section
variable {X : Cx} {CX : CXT} {k : Nat} {C : Addr} {ps : List Str} {sp : Sp} {ES : St → XK} {x : Str} {p pos : Pos} {e : Expr} {es : List Expr} {t : TA}
/-- a call of a class in a try: what is raised is wished for at the slots -/
def tMakeS (C : Addr) (sp : Sp) (E : St → XK) (t : TA) : TE := fun σ H Q => t σ H fun vs H1 => ∀ x dx, H1 x = none → H1 dx = none → dx ≠ x → sp (.ref x :: vs) (upd (upd H1 dx (.own x)) x (.ins C dx [])) (fun v H2 => v = .non ∧ Q (.ref x) H2) (E σ)
theorem pe_mkS (c : CalI X.prog X.w X.K X.mg X.base CX k x C ps sp) (hr : Room (k + 1) X.A) (hx : ∀ σ, PassesAt CX X σ (ES σ)) (ha : PA X (e :: es) t) (hg : Gl X x := by rfl)
    (hdb : (x == ("__debug__" : Str)) = false := by decide) (he : starEach (e :: es) X.env = (false, eval e X.env) :: starEach es X.env := by rfl) (hpl : (backTo pos (starEach es X.env)).any (·.1) = false := by rfl) :
    PE X (.Call (.Name x p) (e :: es) [] pos) (tMakeS C sp ES t) := by
  obtain ⟨f, fd, M, hb, F⟩ := c.ex
  refine ⟨fun pins s σ H Q I h => ?_⟩
  refine wpAny_Call_Name_kw (ld_glob I hg c.at_ ?_ hdb)
  refine PySem.W.callWith_K (h₀ := X.base) I.ok.mod.kin M.kp (thn (ha.run pos pins s σ H _ I h) fun us s1 ⟨vs, H1, I1, r, q⟩ => ⟨I1.kIn, ?_⟩) he hpl
  have hq := q (s1.heap.objs.size + 1) s1.heap.objs.size (I1.hok.fresh (Nat.le_succ _)) (I1.hok.fresh (Nat.le_refl _)) (Nat.ne_of_lt (Nat.lt_succ_self _))
  have I2 := Inv.made (C := C) I1
  have r2 : Vals (V.ref (s1.heap.objs.size + 1) :: vs) (Value.ref (s1.heap.objs.size + 1) :: us) := .cons rfl r
  have hl : (Value.ref (s1.heap.objs.size + 1) :: us).length = ps.length := by
    have e := r2.length
    rw [F.len _ _ _ _ hq] at e
    exact e.symm
  have b := hb { s1 with heap := _ } (Value.ref (s1.heap.objs.size + 1) :: us) I2.kIn (by rw [List.append_nil]; exact hl)
  rw [List.append_nil] at b
  refine wpAny_call (make_map (f := f) I1.kIn M.makes M.init (beq_iff_eq.mp M.fn) (codeAny_mono (F.run _ X.stack _ _ ⟨Value.ref (s1.heap.objs.size + 1) :: us, []⟩ (Value.ref (s1.heap.objs.size + 1) :: us) _ _ (ES σ) (hr.make C us [])
    (I2.env0.make C us []) b r2 hq) fun r s' hq' => ?_))
  cases r with
  | error e => exact hx σ pins _ _ e s' I2 hq'
  | ok fl =>
    cases fl with
    | ret u =>
      obtain ⟨v, H', I3, rv, ev, q3⟩ := I2.after hq'
      subst ev
      exact ⟨rv, ⟨V.ref (s1.heap.objs.size + 1), H', I3, rfl, q3⟩⟩
    | next => exact False.elim hq'
    | brk => exact False.elim hq'
    | cont => exact False.elim hq'
end
end Sd

/-! rules of mine -/
namespace Sd
open PySem PySem.Spec PyProof.Rows L2 PySem.W
section
variable {X : Cx}
/-- x not in d, d a written dict with text keys -/
def rNotKD (K : PySem.W.Frag) (w : World) : R2 := fun x y H Q => ∃ (z : Str) (p : Addr) (es : Array DictEntry) (n : Nat) (r : Option Value), x = .str z ∧ y = .ref p ∧ K.lookup p = some ⟨.type "dict", none, .dict es n, #[]⟩ ∧ PySem.W.KeysLit w.params es.toList ∧
  (p == sysModules) = false ∧ PySem.W.nsIn K p z = some r ∧ Q (.bl (!r.isSome)) H
theorem op_notKD : OpR X (compareOp .NotIn) (rNotKD X.K X.w) := by
  intro pins s σ H x y v u Q I rx ry h
  obtain ⟨z, p, es, n, r, rfl, rfl, hl, hk, lo, e, q⟩ := h
  obtain ⟨t, rfl⟩ := rx
  obtain rfl : u = Value.ref p := ry
  refine wpAny_notIn_of (strKind_is X.prog X.w z t) lo (PySem.W.mapOf_K (prog := X.prog) (w := X.w) I.kIn hl hk) ?_
  rw [PySem.W.find_K hl e]
  exact ⟨.bl (!r.isSome), H, I.tok _, rfl, q⟩
/-- xs[i] as the read of xs[i] op= e -/
theorem pget_list : PGet X (rIxL X.K) := by
  intro pins s σ H x y v u Q I rx ry h
  obtain ⟨p, xs, i, z, rfl, rfl, hq, he, q⟩ := h
  cases rx
  obtain ⟨t, rfl⟩ := ry
  obtain ⟨its, r, pl, hz⟩ := I.list hq
  obtain ⟨j, h1, h2, h3, h4, h5⟩ := atI_get he
  obtain ⟨w, ew, rw'⟩ := r.get h2
  have hl := r.length
  have hn := line63
  have fin : EP X pins σ Q w s := ⟨z, H, I, rw', q⟩
  by_cases h0 : 0 ≤ i
  · have hj : i.toNat = j := by
      rw [seqIndex_of h0 h5] at h1
      exact Option.some.inj h1
    exact wpAny_getItem_list pl.isList h0 (by omega) (by rw [hj]; simpa using ew) fin
  · have hj : (i + (its.toArray.size : Int)).toNat = j := by
      rw [seqIndex_neg (by omega) h4] at h1
      rw [List.size_toArray, ← hl]
      exact Option.some.inj h1
    exact wpAny_getItem_list_neg pl.isList (by omega) (by rw [List.size_toArray] <;> omega) (by omega) (by rw [hj]; simpa using ew) fin
/-- max(xs, default=d), ints -/
def rMaxDef (K : PySem.W.Frag) : List V → List V → Hp → VK → Prop := fun vs zs H Q => ∃ (a : Addr) (ns : List Int) (d : V), vs = [V.ref a] ∧ zs = [d] ∧ SqL K H a (ns.map V.int) ∧ (ns = [] → Q d H) ∧ ∀ m, m ∈ ns → (∀ y, y ∈ ns → y ≤ m) → Q (.int m) H
/-- min of a list of tuples of ints -/
def rMinT (K : PySem.W.Frag) : List V → Hp → VK → Prop := fun vs H Q => ∃ (a : Addr) (bs : List (Addr × List Int)), vs = [V.ref a] ∧ SqL K H a (bs.map fun b => V.ref b.1) ∧ (∀ b ∈ bs, SqT K H b.1 (b.2.map V.int)) ∧ bs ≠ [] ∧ bs.length < 100000 ∧
  ∀ b ∈ bs, (∀ c ∈ bs, listLt c.2 b.2 = false) → Q (.ref b.1) H
theorem maxOf_int (x : Int) (xs : List Int) : maxOf x xs ∈ x :: xs ∧ ∀ y ∈ x :: xs, y ≤ maxOf x xs := by
  unfold maxOf
  induction xs generalizing x with
  | nil => exact ⟨List.mem_cons_self, fun y hy => by rw [List.mem_singleton.mp hy]; exact Int.le_refl _⟩
  | cons z zs ih =>
    rw [List.foldl_cons]
    obtain ⟨h1, h2⟩ := ih (if DatumOrd.lt x z = true then z else x)
    have e : DatumOrd.lt x z = decide (x < z) := rfl
    by_cases c : x < z
    · rw [e, decide_eq_true c, if_pos rfl] at h1 h2 ⊢
      refine ⟨List.mem_cons_of_mem _ h1, fun y hy => ?_⟩
      rcases List.mem_cons.mp hy with rfl | hy
      · exact Int.le_trans (Int.le_of_lt c) (h2 z List.mem_cons_self)
      · exact h2 y hy
    · rw [e, decide_eq_false c, if_neg Bool.false_ne_true] at h1 h2 ⊢
      refine ⟨?_, fun y hy => ?_⟩
      · rcases List.mem_cons.mp h1 with h1 | h1
        · rw [h1]; exact List.mem_cons_self
        · exact List.mem_cons_of_mem _ (List.mem_cons_of_mem _ h1)
      · rcases List.mem_cons.mp hy with rfl | hy
        · exact h2 y List.mem_cons_self
        · rcases List.mem_cons.mp hy with rfl | hy
          · exact Int.le_trans (by omega) (h2 x List.mem_cons_self)
          · exact h2 y (List.mem_cons_of_mem _ hy)
theorem cr_maxDef (hc : X.calm = true) (hu : X.A.units + 64 < cLine) : CallRK X (.builtin "max") ["default"] (rMaxDef X.K) := by
  intro pins s σ H xs zs us ws Q I r1 r2 h
  obtain ⟨a, ns, d, rfl, rfl, hs, q0, q⟩ := h
  obtain ⟨its, rv, hl, _⟩ := I.list hs
  rw [Vals.ref1 r1]
  cases r2 with
  | cons rd rn =>
    cases rn
    rename_i wd
    refine max_list_datum_default (α := Int) (d := wd) (I.ok.hd hc) hl.isList (HoldAll.of_ints rv.ints) (by show X.A.units + 1 + 0 < cLine; omega) (fun e h' tk hk => ⟨d, H, I.kept hk, rd, q0 e⟩) fun y ys i v h' tk e hi Hm hk => ?_
    obtain ⟨m1, m2⟩ := maxOf_int y ys
    obtain ⟨as, rr⟩ := Hm
    have hv : ∃ t, v = .int (maxOf y ys) t := by
      cases (show Reads h' v (.int (maxOf y ys)) as from rr) with
      | int i t => exact ⟨t, rfl⟩
    obtain ⟨t, rfl⟩ := hv
    exact ⟨.int (maxOf y ys), H, I.kept hk, ⟨t, rfl⟩, q _ (by rw [e]; exact m1) (by rw [e]; exact m2)⟩
theorem lLt_irr : ∀ a : List Int, listLt a a = false
  | [] => rfl
  | x :: xs => by
    show (if x = x then listLt xs xs else _) = false
    rw [if_pos rfl]
    exact lLt_irr xs
theorem lLt_tr : ∀ a b c : List Int, listLt a b = true → listLt b c = true → listLt a c = true
  | [], [], _, h, _ => by cases h
  | [], _ :: _, [], _, h => by cases h
  | [], _ :: _, _ :: _, _, _ => rfl
  | _ :: _, [], _, h, _ => by cases h
  | _ :: _, _ :: _, [], _, h => by cases h
  | x :: xs, y :: ys, z :: zs, h, k => by
    have h' : (if x = y then listLt xs ys else decide (x < y)) = true := h
    have k' : (if y = z then listLt ys zs else decide (y < z)) = true := k
    show (if x = z then listLt xs zs else decide (x < z)) = true
    by_cases c1 : x = y
    · rw [if_pos c1] at h'
      by_cases c2 : y = z
      · rw [if_pos c2] at k'
        rw [if_pos (c1.trans c2)]
        exact lLt_tr xs ys zs h' k'
      · rw [if_neg c2] at k'
        rw [c1, if_neg c2]
        exact k'
    · rw [if_neg c1] at h'
      have h1 := of_decide_eq_true h'
      by_cases c2 : y = z
      · rw [← c2, if_neg c1]
        exact h'
      · rw [if_neg c2] at k'
        have k1 := of_decide_eq_true k'
        rw [if_neg (by omega)]
        exact decide_eq_true (by omega)
theorem lLt_tri : ∀ a b : List Int, listLt a b = true ∨ a = b ∨ listLt b a = true
  | [], [] => .inr (.inl rfl)
  | [], _ :: _ => .inl rfl
  | _ :: _, [] => .inr (.inr rfl)
  | x :: xs, y :: ys => by
    show (if x = y then listLt xs ys else decide (x < y)) = true ∨ x :: xs = y :: ys ∨ (if y = x then listLt ys xs else decide (y < x)) = true
    by_cases c : x = y
    · rw [if_pos c, if_pos c.symm]
      rcases lLt_tri xs ys with h | h | h
      · exact .inl h
      · exact .inr (.inl (by rw [c, h]))
      · exact .inr (.inr h)
    · rw [if_neg c, if_neg (Ne.symm c)]
      by_cases d : x < y
      · exact .inl (decide_eq_true d)
      · exact .inr (.inr (decide_eq_true (by omega)))
theorem lMin_no {x y m : List Int} (c : ¬ listLt y x = true) (hx : listLt x m = false) (f : listLt y m = true) : False := by
  rcases lLt_tri y x with h | h | h
  · exact c h
  · rw [h, hx] at f
    cases f
  · have := lLt_tr _ _ _ h f
    rw [hx] at this
    cases this
theorem minOf_tup (x : Tup Int) (xs : List (Tup Int)) : ∀ y ∈ x :: xs, listLt y.items (minOf x xs).items = false := by
  unfold minOf
  induction xs generalizing x with
  | nil =>
    intro y hy
    rw [List.mem_singleton.mp hy]
    exact lLt_irr _
  | cons z zs ih =>
    rw [List.foldl_cons]
    have e : DatumOrd.lt z x = listLt z.items x.items := rfl
    have h := ih (if DatumOrd.lt z x = true then z else x)
    intro y hy
    by_cases c : listLt z.items x.items = true
    · rw [e, c, if_pos rfl] at h ⊢
      rcases List.mem_cons.mp hy with rfl | hy
      · cases f : listLt y.items (List.foldl (fun a y => if DatumOrd.lt y a = true then y else a) z zs).items with
        | false => rfl
        | true =>
          have := lLt_tr _ _ _ c f
          rw [h z List.mem_cons_self] at this
          cases this
      · exact h y hy
    · rw [e, if_neg c] at h ⊢
      rcases List.mem_cons.mp hy with rfl | hy
      · exact h y List.mem_cons_self
      · rcases List.mem_cons.mp hy with rfl | hy
        · cases f : listLt y.items (List.foldl (fun a y => if DatumOrd.lt y a = true then y else a) x zs).items with
          | false => rfl
          | true =>
            -- the least is not less than x, and y is not less than x
            exfalso
            have hx := h x List.mem_cons_self
            exact lMin_no c hx f
        · exact h y (List.mem_cons_of_mem _ hy)
theorem dpTups {K : PySem.W.Frag} {H : Hp} : ∀ bs : List (Addr × List Int), (∀ b ∈ bs, SqT K H b.1 (b.2.map V.int)) → DpAll K H (bs.map fun b => V.ref b.1) (bs.map fun b => PyData.tuple (b.2.map PyData.int))
  | [], _ => .nil
  | b :: bs, h => .cons (.tup (h b List.mem_cons_self) (dInts_all b.2)) (dpTups bs fun c hc => h c (List.mem_cons_of_mem _ hc))
theorem toD_tups (bs : List (Addr × List Int)) : (bs.map fun b => (⟨b.2⟩ : Tup Int)).map Datum.toD = bs.map fun b => PyData.tuple (b.2.map PyData.int) := by
  rw [List.map_map]
  rfl
theorem ints_inj : ∀ {a b : List Int}, a.map PyData.int = b.map PyData.int → a = b
  | [], [], _ => rfl
  | [], _ :: _, h => by cases h
  | _ :: _, [], h => by cases h
  | x :: xs, y :: ys, h => by
    rw [List.map_cons, List.map_cons] at h
    injection h with h1 h2
    injection h1 with h1
    rw [h1, ints_inj h2]
theorem vals_back {xs : List V} {us : List Value} {i : Nat} {u : Value} (r : Vals xs us) (h : us[i]? = some u) : ∃ x, xs[i]? = some x ∧ RelV x u := by
  cases e : xs[i]? with
  | none =>
    rw [r.none_of e] at h
    cases h
  | some x =>
    obtain ⟨w, hw, rw'⟩ := r.get e
    rw [h] at hw
    cases hw
    exact ⟨x, rfl, rw'⟩
theorem cr_minT (hc : X.calm = true) (hu : X.A.units + 64 < cLine) : CallR X (.builtin "min") (rMinT X.K) := by
  intro pins s σ H xs us Q I r h
  obtain ⟨a, bs, rfl, hs, ht, hne, hb, q⟩ := h
  obtain ⟨its, rv, hl, _⟩ := I.list hs
  rw [Vals.ref1 r]
  obtain ⟨as, ra⟩ := Dp.readsAll I (bs.map fun b => PyData.tuple (b.2.map PyData.int)) _ its (dpTups bs ht) rv
  cases bs with
  | nil => exact absurd rfl hne
  | cons b br =>
    have HA : HoldAll s.heap its ((⟨b.2⟩ : Tup Int) :: br.map fun b => ⟨b.2⟩) := ⟨as, by
      have := toD_tups (b :: br)
      rw [List.map_cons] at this
      rw [this]
      exact ra⟩
    refine min_list_datum (α := Tup Int) (I.ok.hd hc) hl.isList HA (by show X.A.units + 1 + 1 < cLine; omega) fun i v h' tk hi Hm hk => ?_
    have hi' : its[i]? = some v := by simpa using hi
    obtain ⟨x, hx, Hx⟩ := HA.at hi'
    obtain ⟨y, hy, ry⟩ := vals_back rv hi'
    rw [List.getElem?_map] at hy
    cases hbi : (b :: br)[i]? with
    | none => rw [hbi] at hy; cases hy
    | some c =>
      rw [hbi] at hy
      cases hy
      have hx2 : x = ⟨c.2⟩ := by
        have e : ((⟨b.2⟩ : Tup Int) :: br.map fun b => ⟨b.2⟩)[i]? = some ⟨c.2⟩ := by
          have := congrArg (Option.map fun b : Addr × List Int => (⟨b.2⟩ : Tup Int)) hbi
          rw [← List.getElem?_map, List.map_cons] at this
          exact this
        rw [e] at hx
        exact (Option.some.inj hx).symm
      subst hx2
      obtain ⟨a1, r1⟩ := Hx.keeps hk
      obtain ⟨a2, r2⟩ := Hm
      have e := (Reads.unique r1 _ _ r2).1
      have e2 : c.2 = (minOf (⟨b.2⟩ : Tup Int) (br.map fun b => ⟨b.2⟩)).items := by
        injection e with e
        exact ints_inj e
      have hc2 : c ∈ b :: br := List.mem_of_getElem? hbi
      refine ⟨.ref c.1, H, I.kept hk, ry, q c hc2 fun d hd => ?_⟩
      rw [e2]
      refine minOf_tup _ _ ⟨d.2⟩ ?_
      have := List.mem_map_of_mem (f := fun b : Addr × List Int => (⟨b.2⟩ : Tup Int)) hd
      rw [List.map_cons] at this
      exact this
def leT (b c : Addr × List Int) : Bool := !listLt c.2 b.2
def rSortT (K : PySem.W.Frag) : List V → Hp → VK → Prop := fun vs H Q => ∃ (a : Addr) (bs : List (Addr × List Int)), vs = [V.ref a] ∧ SqL K H a (bs.map fun b => V.ref b.1) ∧ (∀ b ∈ bs, SqT K H b.1 (b.2.map V.int)) ∧ (∀ b ∈ bs, b.2 ≠ []) ∧ bs.length < 100000 ∧
  ∀ p, H p = none → Q (.ref p) (upd H p (.lst ((bs.mergeSort leT).map fun b => V.ref b.1)))
abbrev encT (b : Addr × List Int) : PyData := .tuple (b.2.map PyData.int)
theorem each_of : ∀ (bs : List (Addr × List Int)) (us : List Value), Vals (bs.map fun b => V.ref b.1) us → EachIs (fun v b => v = Value.ref b.1) us bs
  | [], _, h => by
    cases h
    exact .nil
  | b :: bs, _, h => by
    cases h with
    | cons r t => exact .cons r (each_of bs _ t)
theorem vals_of_each : ∀ (us : List Value) (bs : List (Addr × List Int)), EachIs (fun v b => v = Value.ref b.1) us bs → Vals (bs.map fun b => V.ref b.1) us
  | _, _, .nil => .nil
  | _, _, .cons r t => .cons r (vals_of_each _ _ t)
theorem each_reads {X : Cx} {pins : List (Addr × Obj)} {σ : L2.St} {H : Hp} {s : Shared} (I : Inv X pins σ H s) : ∀ (bs : List (Addr × List Int)) (us : List Value), (∀ b ∈ bs, SqT X.K H b.1 (b.2.map V.int)) → Vals (bs.map fun b => V.ref b.1) us → EachIs (fun v b => ∃ as, Reads s.heap v (encT b) as) us bs
  | [], _, _, h => by
    cases h
    exact .nil
  | b :: bs, _, ht, h => by
    cases h with
    | cons r t => exact .cons (Dp.reads I (encT b) _ _ (.tup (ht b List.mem_cons_self) (dInts_all b.2)) r) (each_reads I bs _ (fun c hc => ht c (List.mem_cons_of_mem _ hc)) t)
theorem dataLe_T : dataLe false encT = leT := by
  funext b c
  show (!dataLt (encT c) (encT b)) = _
  have e := DatumOrd.lt_eq (⟨c.2⟩ : Tup Int) ⟨b.2⟩
  have e2 : dataLt (encT c) (encT b) = DatumOrd.lt (⟨c.2⟩ : Tup Int) ⟨b.2⟩ := e
  rw [e2]
  rfl
theorem cr_sortT (hu : X.A.units + 64 < cLine) : CallR X (.builtin "sorted") (rSortT X.K) := by
  intro pins s σ H xs us Q I r h
  obtain ⟨a, bs, rfl, hs, ht, hne, hb, q⟩ := h
  obtain ⟨its, rv, hl, _⟩ := I.list hs
  rw [Vals.ref1 r]
  have hk : Sortable (bs.map encT) := by
    refine .inl fun d hd => ?_
    obtain ⟨b, hb2, rfl⟩ := List.mem_map.mp hd
    have := hne b hb2
    cases e : b.2 with
    | nil => exact absurd e this
    | cons x r =>
      rw [encT, e]
      exact ⟨_, _, rfl⟩
  refine sorted_data (R := fun v (b : Addr × List Int) => v = Value.ref b.1) (enc := encT) hl.isList (each_of bs its rv) ?_ ?_ hk ?_ ?_ fun out ho hE => ?_
  · exact each_reads I bs its ht rv
  · exact AllAlike.of fun b b' => by
      show alike (.tuple _) (.tuple _) = true
      simp only [alike]
      exact alike_ints _ _
  · exact Nat.le_trans (Nat.le_of_lt hb) (by decide)
  · intro b _
    show X.A.units + 2 + (PyData.depth (.tuple (b.2.map PyData.int))) < cLine
    have : PyData.depth (.tuple (b.2.map PyData.int)) = PyData.depthAll (b.2.map PyData.int) + 1 := rfl
    rw [this, Sd.depth_ints]
    omega
  · rw [dataLe_T] at hE
    obtain ⟨ep, he'⟩ := PyProof.Rows.sortedAll_at s.heap its out.toArray
    have hlen : ((bs.mergeSort leT).map fun b => V.ref b.1).length ≤ sizeLine := by
      rw [List.length_map, List.length_mergeSort]
      exact Nat.le_trans (Nat.le_of_lt hb) (by decide)
    exact ⟨.ref _, upd H (s.heap.objs.size + 1) (.lst ((bs.mergeSort leT).map fun b => V.ref b.1)), I.laid (t' := s.toks) (fun _ _ => PyProof.Rows.sortedAll_old) (Nat.le_succ _) ⟨hlen, out, ep, vals_of_each _ _ hE, he'⟩, rfl, q _ (I.hok.fresh (Nat.le_succ _))⟩
end
end Sd
/-! rules within a comprehension: the written part by its name -/
namespace Sd
open PySem L2
theorem ixK {X : Cx} {K : PySem.W.Frag} {r : PySem.W.Frag → R2} (q : IxR X (r X.K)) (h : X.K = K) : IxR X (r K) := h ▸ q
theorem opK {X : Cx} {K : PySem.W.Frag} {f : Value → Value → Sem Value} {r : PySem.W.Frag → R2} (q : OpR X f (r X.K)) (h : X.K = K) : OpR X f (r K) := h ▸ q
theorem slK {X : Cx} {K : PySem.W.Frag} {r : PySem.W.Frag → V → Option Int → Option Int → Hp → VK → Prop} (q : SlR X (r X.K)) (h : X.K = K) : SlR X (r K) := h ▸ q
theorem callK {X : Cx} {K : PySem.W.Frag} {f : Value} {r : PySem.W.Frag → List V → Hp → VK → Prop} (q : CallR X f (r X.K)) (h : X.K = K) : CallR X f (r K) := h ▸ q
def rListOf (K : PySem.W.Frag) : List V → Hp → VK → Prop := fun xs H Q => ∃ p ys, xs = [.ref p] ∧ (SqL K H p ys ∨ SqT K H p ys) ∧ ∀ l, H l = none → Q (.ref l) (upd H l (.lst ys))
theorem call_list_ofK {X : Cx} {K : PySem.W.Frag} (h : X.K = K) : CallR X (.type "list") (rListOf K) := callK (r := rListOf) call_list_of h
end Sd
/-! truth within a comprehension -/
namespace Sd
open PySem L2
def tTruK (K : PySem.W.Frag) (ta : TE) : TT := fun σ H Q => ta σ H fun x H' => ∃ k, TruV K x H' k ∧ Q k H'
theorem pt_truthK {X : Cx} {K : PySem.W.Frag} {a : Expr} {ta : TE} (hK : X.K = K) (ha : PE X a ta) (he : ∀ whole, isTrue a X.env whole = (do let v ← whole; standAt a.pos; holding [v] (truthy v))) :
    PT X a (tTruK K ta) := hK ▸ pt_truth ha he
end Sd

/-! dicts with tuple keys: pop of a key that is there; list(d.values()) -/
namespace Sd
open PySem PySem.W PySem.Calls PyProof.Rows PyProof.V PySem.Spec L2
section
variable {prog : Program} {w : World} {A : Around} {E : Value → Shared → Prop} {s : Shared} {K : Type} [DecidableEq K] {knd : HeapKind prog w K}
theorem meetsPop1 {d b : Addr} {k : K} (hd : (d == sysModules) = false) :
    MeetsIn prog w (Builtin.«dict.pop» ⟨[.ref d, .ref b], []⟩) (fun A R s => ∃ xs p, knd.room A.in1 ∧ knd.is s.heap k b ∧ s.heap.DictOfH knd d xs ∧ xs.length ≤ sizeLine ∧ atKey xs k = some p ∧
      ∀ h' tk, h'.DictOfH knd d (DT.dropH xs k) → Heap.SameBut d s.heap h' → R (.ok (.ret p.2)) { s with heap := h', toks := tk }) :=
  .of_wp fun A R s ⟨xs, p, hu, hkey, hm, hsz, hat, hsome⟩ => by
    obtain ⟨o, es, ep, ho, hc, hdat, he, his, hn⟩ := id hm
    have hes : es.size = xs.length := size_of_entries he
    have hpart : (keyPart (Value.ref b)).isSome = false := rfl
    unfold Builtin.«dict.pop»
    refine wpAny_bind ?_
    unfold Builtin.Dict.keyAndDefault
    refine wpAny_bind (wpAny_notOrdered_dict hm.typeIs ?_)
    show wpAny _ _ (pure (d, Value.ref b, none)) _ _ s
    refine wpAny_pure ?_
    simp only [hpart, Bool.false_eq_true, if_false]
    refine wpAny_bind (wpAny_dictEntries ho hdat (wpAny_bind (wpAny_pure ?_)))
    cases hem : es.isEmpty with
    | true =>
      have h0 : xs = [] := by
        have z : es.size = 0 := by simpa using hem
        exact List.length_eq_zero_iff.mp (by omega)
      rw [h0] at hat
      cases hat
    | false =>
      simp only [Bool.false_eq_true, if_false]
      refine wpAny_bind (DT.takeH hu hkey hm hsz (fun hno => ?_) fun p' e hp hev h' hm' hs' => ?_)
      · rw [hat] at hno; cases hno
      · simp only [Option.isNone_some, Bool.false_eq_true, if_false]
        rw [hat] at hp
        cases hp
        exact wpAny_bind (wpAny_letGo (wpAny_pure ⟨e.val, rfl, by rw [hev]; exact hsome h' _ hm' hs'⟩))
end
section
variable {X : Cx}
def rPopT1 : V → List V → Hp → VK → Prop := fun x xs H Q => ∃ (a : Addr) (kvs : List (List L2.Key × V)) (k : List L2.Key) (b : Addr) (v : V), x = .ref a ∧ xs = [.ref b] ∧ H a = some (.dT kvs) ∧ H b = some (.tup (k.map kV)) ∧
  valV kvs k = some v ∧ Q v (upd H a (.dT (dropK kvs k)))
theorem mt_popT1 (hu : X.A.units + 1 < cLine) : MtR X "dict.pop" rPopT1 := by
  intro pins s σ H x xs v us Q I rx rxs h
  obtain ⟨a, kvs, k, b, v0, rfl, rfl, ha, hb, ev, q1⟩ := h
  cases rx
  obtain ⟨u1, rfl, r1⟩ := rxs.one
  cases r1
  obtain ⟨z, hd, xs', rel, dd⟩ := dt_of I.hok ha
  have hz : xs'.length ≤ sizeLine := by rw [← Paired.length rel]; exact z
  have r := rel.val k
  rw [ev] at r
  cases hp : atKey xs' k with
  | none =>
    rw [hp] at r
    exact (show False from r).elim
  | some p =>
    rw [hp] at r
    refine call_meetsIn PySem.F.slot_dict_pop dd.typeIs PySem.F.entry_dict_pop (PySem.F.args_dict_pop_2 _ _) (meetsPop1 (knd := tupleKind (mixKind X.prog X.w)) (k := k) hd)
      ⟨xs', p, tupleKind_room_in1 hu, key_of I.hok hb, dd, hz, hp, fun h' tk dd' hs => ?_⟩
    obtain ⟨o, es, ep, hq, h2, h3, h4, _, h5⟩ := dd'
    have I2 : Inv X pins σ (upd H a (.dT (dropK kvs k))) { s with heap := h', toks := tk } :=
      d_write I (by rw [ha]; exact True.intro) hs ⟨o, hq⟩ ⟨Nat.le_trans (dropK_le kvs k) z, hd, _, (DX.KT_drop k rel).keeps (fun c ys ec => (by rw [upd_ne (ne_of ec ha (fun z => nomatch z))]; exact ec)), o, es, ep, hq, h2, h3, h4, h5⟩
    show EP X pins σ Q p.2 _
    exact ⟨v0, _, I2, r, q1⟩
end
end Sd
namespace Sd
open PySem PySem.Spec PyProof.Rows L2
theorem vals_of_KT {H : Hp} {kvs : List (List L2.Key × V)} {xs : List (List L2.Key × Addr × Value)} (r : L2.KT H kvs xs) : Vals (kvs.map (·.2)) (xs.map fun x => x.2.2) := by
  induction r with
  | nil => exact .nil
  | cons h t ih => exact .cons h.2.2 ih
def tListVals (te : TE) : TE := fun σ H Q => te σ H fun x H1 => ∃ (d : Addr) (kvs : List (List L2.Key × V)), x = .ref d ∧ H1 d = some (.dT kvs) ∧ ∀ l, H1 l = none → Q (.ref l) (upd H1 l (.lst (kvs.map (·.2))))
section
variable {X : Cx} {e : Expr} {te : TE} {p apos cpos pos : Pos}
theorem pe_listVals (hc : X.calm = true) (he : PE X e te) (hg : Gl X "list") (hm : X.mg "list" = none) (hv : bootBuiltins "list" = some (.type "list")) (hbase : attributeBase e "values" X.env (eval e X.env) = eval e X.env := by rfl) (hline : (apos.endLine == cpos.line) = true := by rfl)
    (hs : starEach [.Call (.Attribute e "values" apos) [] [] cpos] X.env = (false, eval (.Call (.Attribute e "values" apos) [] [] cpos) X.env) :: starEach [] X.env := by rfl) :
    PE X (.Call (.Name "list" p) [.Call (.Attribute e "values" apos) [] [] cpos] [] pos) (tListVals te) := by
  refine ⟨fun pins s σ H Q I hq => ?_⟩
  refine wpAny_Call_Name_kw (ld_blt I hg hm hv ?_)
  refine PyProof.Rows.callWith_type1 ?_ hs rfl
  rw [hs]
  show wpAny _ _ (spliced ((false, eval (.Call (.Attribute e "values" apos) [] [] cpos) X.env) :: backTo pos (starEach [] X.env))) _ _ s
  refine Calls.spliced_cons ?_
  refine wpAny_Call_method (T := "dict") (id := "dict.values") hbase rfl hline F.plainAttrs_dict F.slot_dict_values F.type_dict_values (thn (he.run pins s σ H _ I hq) fun u s1 ⟨x, H1, I1, rx, d, kvs, ex, hd, q⟩ => ?_)
  subst ex
  obtain rfl : u = Value.ref d := rx
  obtain ⟨z, hs0, ks, pr, o, es, ep, ho, hx, hdt, hek, hn⟩ := (show ObjOk X.prog X.w H1 s1.heap d (.dT kvs) from I1.hok d _ hd)
  have raw : s1.heap.DictRaw d es ep := ⟨o, ho, hx, hdt⟩
  have l1 : es.size = ks.length := size_of_entries hek
  have l2 : kvs.length = ks.length := Paired.length pr
  have I2 : Inv X pins σ H1 { s1 with heap := s1.heap.push { cls := .type "dict_values", data := .fields #[.ref d] } } := I1.kept (t' := s1.toks) fun b ob q => Heap.get?_push_of_some _ q
  refine ⟨raw.typeIs, (fun a ea => by cases ea; exact ⟨o, ho, hx.2.1⟩), ?_⟩
  show wpAny _ _ (callWith cpos (.builtin "dict.values") [.ref d] [] []) _ X.xe s1
  refine method_meetsIn F.slot_dict_values F.entry_dict_values rfl (PySem.evalArgs_none ⟨rfl, raw.typeIs, F.args_dict_values_1 _, _, meets_dict_values_raw d hs0, ⟨es, ep, raw⟩, ?_⟩)
  refine Calls.spliced_nil ?_
  refine PySem.W.kdl_call (KdlSrc.rawValues (r := s1.heap.objs.size) (d := d) (es := es) (ep := ep)) (I1.ok.hd hc) ⟨⟨_, Heap.get?_push_size _ rfl, rfl, rfl⟩, raw.push _⟩ (by omega) fun h' tk acc' c' kp e it => ?_
  have ea : acc'.toList = ks.map fun x => x.2.2 := by
    have hl : acc'.toList.length = ks.length := by rw [Array.length_toList, it.1]; exact l1
    apply List.ext_getElem?
    intro j
    rw [List.getElem?_map]
    cases hj : acc'.toList[j]? with
    | none =>
      have h1 := List.getElem?_eq_none_iff.mp hj
      rw [List.getElem?_eq_none (by omega)]
      all_goals rfl
    | some v =>
      obtain ⟨hi, hv⟩ := it.2 j v (by rw [← Array.getElem?_toList]; exact hj)
      have qe := entry_at hek j
      rw [Array.getElem?_eq_getElem hi] at qe
      cases hb : ks[j]? with
      | none =>
        rw [hb] at qe
        exact nomatch (show some es[j] = none from qe)
      | some b =>
        rw [hb] at qe
        have e2 : es[j] = entryOfKey (tupleKind (mixKind X.prog X.w)) b := Option.some.inj qe
        rw [hv, e2]
        all_goals rfl
  have rv : Vals (kvs.map (·.2)) acc'.toList := by rw [ea]; exact vals_of_KT pr
  have hz : (kvs.map (·.2)).length ≤ sizeLine := by rw [List.length_map]; omega
  exact ⟨.ref _, _, I2.laid (t' := tk) (o := .lst (kvs.map (·.2))) kp (Nat.le_refl _) ⟨hz, acc'.toList, c', rv, by rw [Array.toArray_toList]; exact e⟩, rfl, q _ (I2.hok.fresh (Nat.le_refl _))⟩
end
end Sd

/-! x is True, x is not False: Booleans -/
namespace Sd
open PySem PySem.Spec PyProof.Rows L2
section
variable {X : Cx}
theorem op_isB : OpR X (compareOp .Is) (fun x y H Q => ∃ a b, x = .bl a ∧ y = .bl b ∧ Q (.bl (decide (a = b))) H) := by
  intro pins s σ H x y v u Q I rx ry h
  obtain ⟨a, b, rfl, rfl, q⟩ := h
  cases (show v = Value.bool a from rx)
  cases (show u = Value.bool b from ry)
  exact PyProof.Rows.is_bool (fin_bl I q (by cases a <;> cases b <;> rfl))
theorem op_notB : OpR X (compareOp .IsNot) (fun x y H Q => ∃ a b, x = .bl a ∧ y = .bl b ∧ Q (.bl (!decide (a = b))) H) := by
  intro pins s σ H x y v u Q I rx ry h
  obtain ⟨a, b, rfl, rfl, q⟩ := h
  cases (show v = Value.bool a from rx)
  cases (show u = Value.bool b from ry)
  exact PyProof.Rows.isnot_bool (fin_bl I q (by cases a <;> cases b <;> rfl))
def rLenS (K : PySem.W.Frag) : List V → Hp → VK → Prop := fun xs H Q => ∃ p ys, xs = [.ref p] ∧ (SqL K H p ys ∨ SqT K H p ys) ∧ Q (.int ys.length) H
theorem call_lenK {K : PySem.W.Frag} (h : X.K = K) : CallR X (.builtin "len") (rLenS K) := callK (r := rLenS) call_len_seq h
theorem pi_listK {K : PySem.W.Frag} (h : X.K = K) {tg l : Expr} {tl : TE} (hl : PE X l tl) : PI X tg l (iList K tl) := h ▸ pi_list hl
/-- a comprehension's block that captures nothing -/
theorem blkOk_any {N : List Str} {sc scope : Scope} {own : List (Str × Nat)} (h : blkC N { kind := .function, names := [], isGenerator := false, isCoroutine := false, more := [] } scope own = true) : BlkOk N sc scope own := by
  have h' := blkOk_by h
  refine ⟨h'.kind, h'.uniq, h'.ix, fun y hy e => ?_, h'.own⟩
  rcases h'.free y hy e with z | z <;> cases z
end
end Sd

/-! the draws of a script: _law_cell, _law_dice, _law_off -/
namespace Sd
open PySem L2
theorem b01 (c : Bool) : -(2 ^ 64) < (if c = true then (1 : Int) else 0) ∧ (if c = true then (1 : Int) else 0) < 2 ^ 64 := by
  cases c with
  | true =>
    rw [if_pos rfl]
    decide
  | false =>
    rw [if_neg Bool.false_ne_true]
    decide
def spCell (K : PySem.W.Frag) : Sp := fun vs H Q _ => ∃ (a : Addr) (ns : List Int) (k : Int), vs = [.ref a, .int k] ∧ 0 ≤ k ∧ SqL K H a (ns.map V.int) ∧ ∀ v : Int, Q (.int v) H
/-- what the draws go on with stands at d: four things, the second one the script's list -/
def Dice (H : Hp) (d a : Addr) : Prop := ∃ n k g : Int, H d = some (.lst [.int n, .ref a, .int k, .int g])
theorem Dice.but {H H' : Hp} {d a e : Addr} (h : Dice H d a) (b : But e H H') (n : d ≠ e) : Dice H' d a := by
  obtain ⟨x, k, g, h⟩ := h
  exact ⟨x, k, g, b _ _ n h⟩
theorem Dice.same {H H' : Hp} {d a : Addr} (h : Dice H d a) (s : Same H H') : Dice H' d a := by
  obtain ⟨x, k, g, h⟩ := h
  exact ⟨x, k, g, s _ _ h⟩
theorem Dice.some {H : Hp} {d a : Addr} (h : Dice H d a) : ∃ u, H d = some u := by
  obtain ⟨x, k, g, h⟩ := h
  exact ⟨_, h⟩
theorem Dice.ne {H : Hp} {d a p : Addr} (h : Dice H d a) (n : H p = none) : d ≠ p := by
  obtain ⟨x, k, g, h⟩ := h
  exact ne_of_none h n
/-- the script stands, whatever the draws' list becomes -/
theorem Dice.seq {K : PySem.W.Frag} {H H' : Hp} {d a : Addr} {ns : List Int} (h : Dice H d a) (b : But d H H') (s : SqL K H a (ns.map V.int)) : SqL K H' a (ns.map V.int) := by
  obtain ⟨n, k, g, h⟩ := h
  refine Sd.SqL.keep s b h (fun e => ?_)
  cases ns with
  | nil => cases e
  | cons x r =>
    cases r with
    | nil => cases e
    | cons y r =>
      have e2 := (List.cons.inj (List.cons.inj e).2).1
      cases e2
theorem Dice.ne_ints {H : Hp} {d a l : Addr} {xs : List Int} (h : Dice H d a) (hl : H l = Option.some (.lst (xs.map V.int))) : l ≠ d := fun z => by
  obtain ⟨n, k, g, h⟩ := h
  rw [z, h] at hl
  have e := (HO.lst.inj (Option.some.inj hl))
  cases xs with
  | nil => cases e
  | cons x r =>
    cases r with
    | nil => cases e
    | cons y r => cases (List.cons.inj (List.cons.inj e).2).1
def spDice (K : PySem.W.Frag) : Sp := fun vs H Q _ => ∃ (a : Addr) (ns : List Int) (k : Int), vs = [.ref a, .int k] ∧ 0 ≤ k ∧ SqL K H a (ns.map V.int) ∧
  ∀ (p : Addr) (H' : Hp), H p = none → Same H H' → But p H H' → Dice H' p a → (∀ b, b ≠ p → H' b = H b) → Q (.ref p) H'
def spOff (K : PySem.W.Frag) : Sp := fun vs H Q _ => ∃ (d a : Addr) (ns : List Int) (m : Int), vs = [.ref d, .int m] ∧ Dice H d a ∧ SqL K H a (ns.map V.int) ∧ 0 < m ∧ m < 1073741824 ∧
  ∀ (r : Int) (H' : Hp), 0 ≤ r → r < m → Dice H' d a → (∀ b, b ≠ d → H' b = H b) → Q (.int r) H'
end Sd

/-! deeds, answers, the five things: plain words -/
namespace Sd
inductive Deed
  | one | count | set (n : Int) | look | add (n : Int) | sum | rais (n : Int) | top | give (n : Int) | take
  deriving DecidableEq
namespace Deed
/-- the number is one that a deed may have -/
def ok : Deed → Prop
  | set n => 0 ≤ n ∧ n ≤ 999 | add n => 0 ≤ n ∧ n ≤ 999 | rais n => 0 ≤ n ∧ n ≤ 999 | give n => 0 ≤ n ∧ n ≤ 999
  | _ => True
def most : Deed → Int → Int
  | one, _ => 1 | count, m => m | give _, m => m + 1 | take, m => 2 * m
  | look, m => m * (m + 1) | sum, m => m * (m + 1) | top, m => m * (m + 1)
  | set _, m => m * (m + 1) + 1 | add _, m => m * (m + 1) + 1 | rais _, m => m * (m + 1) + 1
def thing : Deed → Nat
  | one | count => 0
  | set _ | look => 1
  | add _ | sum => 2
  | rais _ | top => 3
  | give _ | take => 4
/-- it changes its thing by a put -/
def puts : Deed → Bool
  | one | set _ | add _ | rais _ | give _ => true
  | _ => false
/-- it tells of a thing without takes -/
def tells : Deed → Bool
  | count | look | sum | top => true
  | _ => false
end Deed
inductive Ans
  | non | int (n : Int) | view (cs : List Int)
  deriving DecidableEq
/-- the greatest of the list, 0 at the least -/
def top0 (l : List Int) : Int := l.foldl (fun a b => if b > a then b else a) 0
/-- the program's five things -/
structure St5 where
  ones : Int
  cells : List Int
  added : Int
  top : Int
  line : List Int
  deriving DecidableEq
def St5.first (m : Nat) : St5 := ⟨0, List.replicate m 0, 0, 0, []⟩
def St5.ans (s : St5) : Deed → Ans
  | .count => .int s.ones
  | .look => .view s.cells
  | .sum => .int s.added
  | .top => .int s.top
  | .take => match s.line with
    | [] => .non
    | g :: _ => .int g
  | _ => .non
def St5.behind (s : St5) (h : Nat) : Deed → St5
  | .one => { s with ones := s.ones + 1 }
  | .set n => { s with cells := s.cells.set h n }
  | .add n => { s with added := s.added + n }
  | .rais n => { s with top := if n > s.top then n else s.top }
  | .give n => { s with line := s.line ++ [n] }
  | .take => { s with line := s.line.drop 1 }
  | _ => s
/-- sizes that the rules want -/
structure St5.Ok (s : St5) (m : Nat) : Prop where
  cells : s.cells.length = m
  line : s.line.length ≤ 10000
end Sd

/-! the law's own five things, plain words -/
namespace Sd
structure L5 where
  ones : Int
  cells : List Int
  adds : List Int
  tops : List Int
  line : List Int
def L5.first (m : Nat) : L5 := ⟨0, List.replicate m 0, List.replicate m 0, List.replicate m 0, []⟩
def L5.ans (s : L5) : Deed → Ans
  | .count => .int s.ones
  | .look => .view s.cells
  | .sum => .int s.adds.sum
  | .top => .int (top0 s.tops)
  | .take => match s.line with
    | [] => .non
    | g :: _ => .int g
  | _ => .non
def L5.behind (s : L5) (h : Nat) : Deed → L5
  | .one => { s with ones := s.ones + 1 }
  | .set n => { s with cells := s.cells.set h n }
  | .add n => { s with adds := s.adds.set h (s.adds.getD h 0 + n) }
  | .rais n => { s with tops := s.tops.set h (if n > s.tops.getD h 0 then n else s.tops.getD h 0) }
  | .give n => { s with line := s.line ++ [n] }
  | .take => { s with line := s.line.drop 1 }
  | _ => s
structure L5.Ok (s : L5) (m : Nat) : Prop where
  cells : s.cells.length = m
  adds : s.adds.length = m
  tops : s.tops.length = m
  tops0 : ∀ x ∈ s.tops, 0 ≤ x
  line : s.line.length ≤ 10000
/-- the two ways to hold them -/
structure Sim (s : St5) (l : L5) : Prop where
  ones : s.ones = l.ones
  cells : s.cells = l.cells
  added : s.added = l.adds.sum
  top : s.top = top0 l.tops
  line : s.line = l.line
theorem foldl_max (l : List Int) : ∀ a : Int, (∀ x ∈ l, x ≤ l.foldl (fun a b => if b > a then b else a) a) ∧ a ≤ l.foldl (fun a b => if b > a then b else a) a ∧ (l.foldl (fun a b => if b > a then b else a) a = a ∨ l.foldl (fun a b => if b > a then b else a) a ∈ l) := by
  induction l with
  | nil => exact fun a => ⟨fun x h => (List.not_mem_nil h).elim, Int.le_refl _, Or.inl rfl⟩
  | cons y l ih =>
    intro a
    obtain ⟨h1, h2, h3⟩ := ih (if y > a then y else a)
    rw [List.foldl_cons]
    refine ⟨fun x hx => ?_, ?_, ?_⟩
    · rcases List.mem_cons.mp hx with rfl | hx
      · refine Int.le_trans ?_ h2
        split <;> omega
      · exact h1 x hx
    · refine Int.le_trans ?_ h2
      split <;> omega
    · rcases h3 with h3 | h3
      · rw [h3]
        split
        · exact .inr List.mem_cons_self
        · exact .inl rfl
      · exact .inr (List.mem_cons_of_mem _ h3)
theorem top0_of {l : List Int} (h0 : ∀ x ∈ l, 0 ≤ x) {m : Int} (hm : m ∈ l) (h : ∀ y, y ∈ l → y ≤ m) : m = top0 l := by
  obtain ⟨h1, h2, h3⟩ := foldl_max l 0
  have e1 := h1 m hm
  rcases h3 with h3 | h3
  · have := h0 m hm
    show m = List.foldl _ 0 l
    omega
  · have := h _ h3
    show m = List.foldl _ 0 l
    omega
theorem sum_set (l : List Int) : ∀ (h : Nat) (n : Int), h < l.length → (l.set h (l.getD h 0 + n)).sum = l.sum + n := by
  induction l with
  | nil => intro h n hh; exact absurd hh (Nat.not_lt_zero _)
  | cons x l ih =>
    intro h n hh
    cases h with
    | zero =>
      rw [List.set_cons_zero, List.sum_cons, List.sum_cons, List.getD_cons_zero]
      omega
    | succ h =>
      rw [List.set_cons_succ, List.sum_cons, List.sum_cons, List.getD_cons_succ, ih h n (by rw [List.length_cons] at hh; omega)]
      omega
theorem le_top0 {l : List Int} {x : Int} (h : x ∈ l) : x ≤ top0 l := (foldl_max l 0).1 x h
theorem top0_nn (l : List Int) : 0 ≤ top0 l := (foldl_max l 0).2.1
theorem top0_le {l : List Int} {m : Int} (h0 : 0 ≤ m) (h : ∀ x ∈ l, x ≤ m) : top0 l ≤ m := by
  rcases (foldl_max l 0).2.2 with e | e
  · show List.foldl _ 0 l ≤ m
    omega
  · exact h _ e
theorem top0_setz {l : List Int} (h : Nat) (n z : Int) (hn : 0 ≤ n) (hh : h < l.length) (z1 : n ≤ z) (z2 : l.getD h 0 ≤ z) (z3 : z = n ∨ z = l.getD h 0) :
    top0 (l.set h z) = if n > top0 l then n else top0 l := by
  have hg : l.getD h 0 ∈ l := by
    rw [List.getD_eq_getElem?_getD, List.getElem?_eq_getElem hh]
    exact List.getElem_mem hh
  have hg1 := le_top0 hg
  have hz : z ∈ l.set h z := List.mem_set hh _
  have hz1 := le_top0 hz
  have nn := top0_nn l
  apply Int.le_antisymm
  · refine top0_le ?_ fun x hx => ?_
    · split <;> omega
    · rcases List.mem_or_eq_of_mem_set hx with e | e
      · have := le_top0 e
        split <;> omega
      · rw [e]
        split <;> omega
  · split
    · omega
    · rcases (foldl_max l 0).2.2 with e | e
      · have e' : top0 l = 0 := e
        have := top0_nn (l.set h z)
        omega
      · have e' : top0 l ∈ l := e
        obtain ⟨j, hj, ej⟩ := List.mem_iff_getElem.mp e'
        by_cases c : j = h
        · subst c
          have e2 : l.getD j 0 = top0 l := by rw [List.getD_eq_getElem?_getD, List.getElem?_eq_getElem hj]; exact ej
          omega
        · have hm : l[j] ∈ l.set h z := by
            refine List.mem_iff_getElem.mpr ⟨j, by rw [List.length_set]; exact hj, ?_⟩
            rw [List.getElem_set_ne (Ne.symm c)]
          have := le_top0 hm
          omega
theorem top0_set {l : List Int} (h : Nat) (n : Int) (hn : 0 ≤ n) (hh : h < l.length) :
    top0 (l.set h (if n > l.getD h 0 then n else l.getD h 0)) = if n > top0 l then n else top0 l := by
  refine top0_setz h n _ hn hh ?_ ?_ ?_
  · split <;> omega
  · split <;> omega
  · split
    · exact .inl rfl
    · exact .inr rfl
theorem Sim.ans {s : St5} {l : L5} (h : Sim s l) (d : Deed) : s.ans d = l.ans d := by
  cases d with
  | count => exact congrArg Ans.int h.ones
  | look => exact congrArg Ans.view h.cells
  | sum => exact congrArg Ans.int h.added
  | top => exact congrArg Ans.int h.top
  | take =>
    have e := h.line
    unfold St5.ans L5.ans
    rw [e]
  | _ => rfl
theorem Sim.behind {s : St5} {l : L5} {m h : Nat} {d : Deed} (q : Sim s l) (o : l.Ok m) (hh : h < m) (hd : d.ok) : Sim (s.behind h d) (l.behind h d) := by
  obtain ⟨e1, e2, e3, e4, e5⟩ := q
  cases d with
  | one => exact ⟨by show s.ones + 1 = l.ones + 1; rw [e1], e2, e3, e4, e5⟩
  | set n => exact ⟨e1, by show s.cells.set h n = l.cells.set h n; rw [e2], e3, e4, e5⟩
  | add n => exact ⟨e1, e2, by show s.added + n = _; rw [e3]; exact (sum_set l.adds h n (by rw [o.adds]; exact hh)).symm, e4, e5⟩
  | rais n => exact ⟨e1, e2, e3, by show (if n > s.top then n else s.top) = _; rw [e4]; exact (top0_set h n hd.1 (by rw [o.tops]; exact hh)).symm, e5⟩
  | give n => exact ⟨e1, e2, e3, e4, by show s.line ++ [n] = l.line ++ [n]; rw [e5]⟩
  | take => exact ⟨e1, e2, e3, e4, by show s.line.drop 1 = l.line.drop 1; rw [e5]⟩
  | _ => exact ⟨e1, e2, e3, e4, e5⟩
theorem L5.Ok.behind {l : L5} {m h : Nat} {d : Deed} (o : l.Ok m) (hd : d.ok) (hl : l.line.length < 10000) : (l.behind h d).Ok m := by
  obtain ⟨o1, o2, o3, o4, o5⟩ := o
  cases d with
  | set n => exact ⟨by show (l.cells.set h n).length = m; rw [List.length_set, o1], o2, o3, o4, o5⟩
  | add n => exact ⟨o1, by show (l.adds.set h _).length = m; rw [List.length_set, o2], o3, o4, o5⟩
  | rais n =>
    refine ⟨o1, o2, by show (l.tops.set h _).length = m; rw [List.length_set, o3], fun x hx => ?_, o5⟩
    rcases List.mem_or_eq_of_mem_set hx with e | e
    · exact o4 x e
    · rw [e]
      have := hd.1
      split <;> omega
  | give n => exact ⟨o1, o2, o3, o4, by show (l.line ++ [n]).length ≤ 10000; rw [List.length_append]; exact hl⟩
  | take => exact ⟨o1, o2, o3, o4, by show (l.line.drop 1).length ≤ 10000; rw [List.length_drop]; omega⟩
  | _ => exact ⟨o1, o2, o3, o4, o5⟩
theorem L5.len_behind (l : L5) (h : Nat) (d : Deed) : (l.behind h d).line.length ≤ l.line.length + 1 := by
  cases d with
  | give n => show (l.line ++ [n]).length ≤ _; rw [List.length_append]; exact Nat.le_refl _
  | take => show (l.line.drop 1).length ≤ _; rw [List.length_drop]; omega
  | _ => exact Nat.le_succ _
theorem sum_zeros (m : Nat) : (List.replicate m (0 : Int)).sum = 0 := by
  induction m with
  | zero => rfl
  | succ m ih => rw [List.replicate_succ, List.sum_cons, ih]; rfl
theorem top0_zeros (m : Nat) : top0 (List.replicate m (0 : Int)) = 0 :=
  Int.le_antisymm (top0_le (Int.le_refl 0) fun x hx => by rw [List.eq_of_mem_replicate hx]; exact Int.le_refl 0) (top0_nn _)
theorem Sim.first (m : Nat) : Sim (St5.first m) (L5.first m) := ⟨rfl, rfl, (sum_zeros m).symm, (top0_zeros m).symm, rfl⟩
theorem L5.Ok.first (m : Nat) : (L5.first m).Ok m := ⟨List.length_replicate, List.length_replicate, List.length_replicate, fun x hx => by rw [List.eq_of_mem_replicate hx]; exact Int.le_refl 0, Nat.zero_le _⟩
end Sd

/-! a mirror of the hall: plain functions -/
namespace Sd
/-- what parted tells -/
def dec (n : Int) : List Int := if h : 1 < n then n % 1000000 :: dec (n / 1000000) else []
termination_by n.toNat
decreasing_by omega
inductive Mark
  | non | mom (n : Int) | gift (h : Nat) (k : Nat)
  deriving DecidableEq
structure Out where
  num : Option Int
  ans : Ans
  mark : Mark
structure Touch where
  hand : Nat
  put : Bool
  place : Nat
  num : Int
  deriving DecidableEq
structure Rec where
  hand : Nat
  deed : Deed
  beg : Nat
  fin : Nat
  ans : Ans
  deriving DecidableEq
structure HandM where
  ended : Nat
  ones : Int
  took : List Nat
  beg : Nat
  out : Option Out
  reading : List Int
  readings : List (List Int)
  steps : Nat
def HandM.new (many : Nat) : HandM := ⟨0, 0, List.replicate many 0, 0, none, [], [], 0⟩
/-- a picture's row -/
def row0 (n : Int) : List Int := if dec n = [] then [0, 0] else dec n
def last (rs : List (List Int)) : List Int := rs.getLastD []
def borrowed (first now : List Int) : List Nat → Option (List Int)
  | [] => none
  | h :: hs => if (row0 (now.getD h 0)).getD 0 0 - (row0 (first.getD h 0)).getD 0 0 ≥ 2 then some ((row0 (now.getD h 0)).drop 2) else borrowed first now hs
def view (many : Nat) (rs : List (List Int)) : Option (List Int) :=
  if rs.length < 2 then none
  else if last rs = last rs.dropLast then some (((last rs).map fun n => (row0 n).getD 0 0).sum :: (last rs).map fun n => (row0 n).getD 1 0)
  else borrowed (rs.headD []) (last rs) (List.range many)
def behindCell (c : Int) : Deed → Int
  | .add n => c + n
  | .rais n => if n > c then n else c
  | .set n => n
  | _ => c
/-- rows of numbers as one -/
def enc : List Int → Int
  | [] => 1
  | x :: xs => x + 1000000 * enc xs
def picOut (many hand : Nat) (d : Deed) (rs : List (List Int)) : Option Out :=
  (view many rs).map fun v =>
    match d with
    | .look => ⟨none, .view (v.drop 1), .mom (v.headD 0)⟩
    | .sum => ⟨none, .int (v.drop 1).sum, .mom (v.headD 0)⟩
    | .top => ⟨none, .int (top0 (v.drop 1)), .mom (v.headD 0)⟩
    | d => ⟨some (enc (((row0 ((last rs).getD hand 0)).getD 0 0 + 1) :: behindCell ((row0 ((last rs).getD hand 0)).getD 1 0) d :: v)), .non, .non⟩
/-- the first gift that is left of each hand that has one: stamp, hand, gift -/
def left (took : List Nat) (rows : List (List Int)) : List (Int × Nat × Int) :=
  (List.range rows.length).filterMap fun h =>
    if 2 * took.getD h 0 < (rows.getD h []).length then some ((rows.getD h []).getD (2 * took.getD h 0 + 1) 0, h, (rows.getD h []).getD (2 * took.getD h 0) 0) else none
/-- the least of them by stamp, then by hand -/
def least : List (Int × Nat × Int) → Option (Int × Nat × Int)
  | [] => none
  | x :: xs => match least xs with
    | none => some x
    | some y => if y.1 < x.1 then some y else some x
def stamp (rows : List (List Int)) : Int := 1 + top0 ((rows.filter fun r => r ≠ []).map fun r => r.getLastD 0)
def lineOut (hand : Nat) (d : Deed) (took : List Nat) (rs : List (List Int)) : Option Out :=
  if rs = [] then none
  else
    let rows := (last rs).map dec
    match d with
    | .give n => some ⟨some (enc (rows.getD hand [] ++ [n, stamp rows])), .non, .gift hand ((rows.getD hand []).length / 2)⟩
    | _ => match least (left took rows) with
      | none => some ⟨none, .non, .non⟩
      | some l => if rs.length < 2 then none else some ⟨none, .int l.2.2, .gift l.2.1 (took.getD l.2.1 0)⟩
def cntOut (d : Deed) (ones : Int) (rs : List (List Int)) : Option Out :=
  match d with
  | .one => some ⟨some (ones + 1), .non, .non⟩
  | _ => if rs = [] then none else some ⟨none, .int (last rs).sum, .mom (last rs).sum⟩
def outOf (many hand : Nat) (d : Deed) (h : HandM) : Option Out :=
  if d.thing = 0 then cntOut d h.ones h.readings else if d.thing = 4 then lineOut hand d h.took h.readings else picOut many hand d h.readings
/-- a deed's end -/
def HandM.done (hand : Nat) (d : Deed) (now : Nat) (o : Out) (h : HandM) : HandM × Rec × Mark :=
  ({ h with
      ones := if d = .one then h.ones + 1 else h.ones
      took := match d, o.mark with
        | .take, .gift g _ => h.took.set g (h.took.getD g 0 + 1)
        | _, _ => h.took
      ended := h.ended + 1
      steps := 0 }, ⟨hand, d, h.beg, now, o.ans⟩, o.mark)
/-- a deed's first step begins it -/
def HandM.start (many hand : Nat) (d : Deed) (now : Nat) (h : HandM) : HandM :=
  if h.steps = 0 then { h with beg := now, readings := [], out := outOf many hand d { h with readings := [] } } else h
def HandM.keep (many hand : Nat) (d : Deed) (n : Int) (h : HandM) : HandM :=
  let r := h.reading ++ [n]
  if r.length = many then { h with readings := h.readings ++ [r], reading := [], out := outOf many hand d { h with readings := h.readings ++ [r] } } else { h with reading := r }
structure Step where
  hand : HandM
  boxes : List Int
  touch : Touch
  ended : Option (Rec × Mark)
def HandM.first (h : HandM) (many hand : Nat) (d : Deed) (now : Nat) : HandM := { h.start many hand d now with steps := h.steps + 1 }
/-- what it takes next -/
def HandM.place (h : HandM) (many : Nat) (d : Deed) : Nat := d.thing * many + h.reading.length
/-- the step's act, the deed being begun -/
def HandM.act (many hand : Nat) (d : Deed) (boxes : List Int) (now : Nat) (h : HandM) : Step :=
  match h.out with
  | some o => ⟨(h.done hand d now o).1, boxes.set (d.thing * many + hand) (o.num.getD 0), ⟨hand, true, d.thing * many + hand, o.num.getD 0⟩, some (h.done hand d now o).2⟩
  | none =>
    match (h.keep many hand d (boxes.getD (h.place many d) 0)).out with
    | none => ⟨h.keep many hand d (boxes.getD (h.place many d) 0), boxes, ⟨hand, false, h.place many d, boxes.getD (h.place many d) 0⟩, none⟩
    | some o =>
      if o.num.isSome then ⟨h.keep many hand d (boxes.getD (h.place many d) 0), boxes, ⟨hand, false, h.place many d, boxes.getD (h.place many d) 0⟩, none⟩
      else ⟨((h.keep many hand d (boxes.getD (h.place many d) 0)).done hand d now o).1, boxes, ⟨hand, false, h.place many d, boxes.getD (h.place many d) 0⟩, some ((h.keep many hand d (boxes.getD (h.place many d) 0)).done hand d now o).2⟩
def HandM.step (many hand : Nat) (d : Deed) (boxes : List Int) (now : Nat) (h : HandM) : Step := HandM.act many hand d boxes now (h.first many hand d now)
structure HallM where
  plans : List (List Deed)
  boxes : List Int
  hands : List HandM
  recs : List Rec
  marks : List Mark
  touches : List Touch
def HallM.many (s : HallM) : Nat := s.plans.length
def HallM.new (plans : List (List Deed)) : HallM := ⟨plans, List.replicate (5 * plans.length) 0, List.replicate plans.length (HandM.new plans.length), [], [], []⟩
def HallM.plan (s : HallM) (i : Nat) : List Deed := s.plans.getD i []
def HallM.hand (s : HallM) (i : Nat) : HandM := s.hands.getD i (HandM.new 0)
/-- a step of hand i: none where its plan is at its end -/
def HallM.stepped (s : HallM) (i : Nat) : Option HallM :=
  match (s.plan i)[(s.hand i).ended]? with
  | none => none
  | some d =>
    let t := (s.hand i).step s.many i d s.boxes s.touches.length
    some { s with
      boxes := t.boxes
      hands := s.hands.set i t.hand
      touches := s.touches ++ [t.touch]
      recs := s.recs ++ (t.ended.map (·.1)).toList
      marks := s.marks ++ (t.ended.map (·.2)).toList }
def HallM.step (s : HallM) (i : Nat) : HallM := (s.stepped i).getD s
def HallM.weave (s : HallM) (row : List Nat) : HallM := row.foldl HallM.step s
/-- the hall behind a step of hand i -/
def HallM.put (s : HallM) (i : Nat) (st : Step) : HallM := { s with
  boxes := st.boxes
  hands := s.hands.set i st.hand
  touches := s.touches ++ [st.touch]
  recs := s.recs ++ (st.ended.map (·.1)).toList
  marks := s.marks ++ (st.ended.map (·.2)).toList }
def HallM.weaved (s : HallM) : List Nat → Nat
  | [] => 0
  | i :: row => (if (s.stepped i).isSome then 1 else 0) + HallM.weaved (s.step i) row
theorem weaved_app (s : HallM) (i : Nat) : ∀ row : List Nat, s.weaved (row ++ [i]) = s.weaved row + (if ((s.weave row).stepped i).isSome then 1 else 0)
  | [] => by
    show (if (s.stepped i).isSome then 1 else 0) + 0 = 0 + _
    rw [Nat.zero_add, Nat.add_zero]
    rfl
  | j :: row => by
    show (if (s.stepped j).isSome then 1 else 0) + HallM.weaved (s.step j) (row ++ [i]) = (if (s.stepped j).isSome then 1 else 0) + HallM.weaved (s.step j) row + _
    rw [weaved_app (s.step j) i row, Nat.add_assoc]
    rfl
theorem weave_app (s : HallM) (row : List Nat) (i : Nat) : s.weave (row ++ [i]) = (s.weave row).step i := by
  unfold HallM.weave
  rw [List.foldl_append]
  rfl
theorem step_many (s : HallM) (i : Nat) : (s.step i).many = s.many := by
  unfold HallM.step HallM.stepped
  cases (s.plan i)[(s.hand i).ended]? <;> rfl
theorem weave_many (s : HallM) (row : List Nat) : (s.weave row).many = s.many := by
  unfold HallM.weave
  induction row generalizing s with
  | nil => rfl
  | cons i r ih => rw [List.foldl_cons, ih, step_many]
end Sd

/-! rows of numbers as one: there and back -/
namespace Sd
def In6 (l : List Int) : Prop := ∀ x ∈ l, 0 ≤ x ∧ x < 1000000
theorem In6.nil : In6 [] := fun x h => by cases h
theorem In6.tail {x : Int} {l : List Int} (h : In6 (x :: l)) : In6 l := fun y hy => h y (List.mem_cons_of_mem _ hy)
theorem In6.drop {l : List Int} (h : In6 l) (k : Nat) : In6 (l.drop k) := fun y hy => h y (List.mem_of_mem_drop hy)
theorem In6.get {l : List Int} (h : In6 l) {k : Nat} {v : Int} (e : l[k]? = some v) : 0 ≤ v ∧ v < 1000000 := h v (List.mem_of_getElem? e)
theorem In6.append {l r : List Int} (h : In6 l) (k : In6 r) : In6 (l ++ r) := fun x hx => (List.mem_append.mp hx).elim (h x) (k x)
theorem In6.cons {x : Int} {l : List Int} (h0 : 0 ≤ x) (h1 : x < 1000000) (h : In6 l) : In6 (x :: l) := fun y hy => by
  rcases List.mem_cons.mp hy with rfl | hy
  · exact ⟨h0, h1⟩
  · exact h y hy
theorem enc_pos : ∀ {l : List Int}, In6 l → 1 ≤ enc l
  | [], _ => by decide
  | x :: l, h => by
    have h1 := enc_pos h.tail
    have h2 := h x List.mem_cons_self
    show 1 ≤ x + 1000000 * enc l
    omega
theorem enc_cons (x : Int) (l : List Int) : enc (x :: l) = x + 1000000 * enc l := rfl
theorem enc_big {x : Int} {l : List Int} (h : In6 (x :: l)) : 1 < enc (x :: l) := by
  have h1 := enc_pos h.tail
  have h2 := h x List.mem_cons_self
  rw [enc_cons]
  omega
theorem enc_mod {x : Int} {l : List Int} (h : In6 (x :: l)) : enc (x :: l) % 1000000 = x := by
  have h2 := h x List.mem_cons_self
  rw [enc_cons]
  omega
theorem enc_div {x : Int} {l : List Int} (h : In6 (x :: l)) : enc (x :: l) / 1000000 = enc l := by
  have h2 := h x List.mem_cons_self
  rw [enc_cons]
  omega
theorem drop_at {l : List Int} {k : Nat} {v : Int} (e : l[k]? = some v) : l.drop k = v :: l.drop (k + 1) := by
  obtain ⟨h, q⟩ := List.getElem?_eq_some_iff.mp e
  rw [List.drop_eq_getElem_cons h, q]
theorem enc_drop {l : List Int} {k : Nat} {v : Int} (e : l[k]? = some v) : enc (l.drop k) = v + 1000000 * enc (l.drop (k + 1)) := by
  rw [drop_at e]
  rfl
theorem take_at {l : List Int} {k : Nat} {v : Int} (e : l[k]? = some v) : l.take (k + 1) = l.take k ++ [v] := by
  obtain ⟨h, q⟩ := List.getElem?_eq_some_iff.mp e
  rw [List.take_succ_eq_append_getElem h, q]
theorem dec_small {n : Int} (h : ¬ 1 < n) : dec n = [] := by
  unfold dec
  exact dif_neg h
theorem dec_enc : ∀ {l : List Int}, In6 l → dec (enc l) = l
  | [], _ => dec_small (by decide)
  | x :: l, h => by
    unfold dec
    rw [dif_pos (enc_big h), enc_mod h, enc_div h, dec_enc h.tail]
/-- n stands for the row: 0 for the empty one, too -/
def Row (n : Int) (row : List Int) : Prop := In6 row ∧ (n = enc row ∨ (n = 0 ∧ row = []))
theorem Row.dec {n : Int} {row : List Int} (h : Row n row) : dec n = row := by
  rcases h with ⟨h6, rfl | ⟨rfl, rfl⟩⟩
  · exact dec_enc h6
  · exact dec_small (by decide)
theorem Row.zero : Row 0 [] := ⟨In6.nil, .inr ⟨rfl, rfl⟩⟩
theorem Row.of {row : List Int} (h : In6 row) : Row (enc row) row := ⟨h, .inl rfl⟩
theorem Row.inj {n m : Int} {row : List Int} (h : Row n row) (k : Row m row) (e : row ≠ []) : n = m := by
  rcases h with ⟨_, rfl | ⟨_, e1⟩⟩
  · rcases k with ⟨_, rfl | ⟨_, e2⟩⟩
    · rfl
    · exact absurd e2 e
  · exact absurd e1 e
end Sd

/-! what a hand's steps want of the boxes: plain words -/
namespace Sd
def In5 (l : List Int) : Prop := ∀ x ∈ l, 0 ≤ x ∧ x < 900000
theorem In5.six {l : List Int} (h : In5 l) : In6 l := fun x hx => ⟨(h x hx).1, Int.lt_trans (h x hx).2 (by decide)⟩
def PicOk (many : Nat) (n : Int) : Prop := ∃ row, Row n row ∧ In5 row ∧ (row = [] ∨ (row.length = many + 3 ∧ row.getD 0 0 ≤ 1000))
def LineOk (n : Int) : Prop := ∃ row, Row n row ∧ In5 row ∧ row.length ≤ 900 ∧ row.length % 2 = 0
def BoxOk (many t : Nat) (n : Int) : Prop := if t = 0 then True else if t = 4 then LineOk n else PicOk many n
def RdOk (many t : Nat) (r : List Int) : Prop := r.length = many ∧ ∀ n ∈ r, BoxOk many t n
/-- a picture's row, an empty box's too -/
theorem PicOk.row0 {many : Nat} {n : Int} (h : PicOk many n) : ∃ p c v, row0 n = p :: c :: v ∧ In5 (p :: c :: v) ∧ p ≤ 1000 ∧ (dec n = [] ∧ v = [] ∨ dec n ≠ [] ∧ v.length = many + 1) := by
  obtain ⟨row, hr, h5, h⟩ := h
  have e := hr.dec
  unfold Sd.row0
  rw [e]
  rcases h with rfl | ⟨hl, hp⟩
  · refine ⟨0, 0, [], by rw [if_pos rfl], fun x hx => ?_, by decide, .inl ⟨rfl, rfl⟩⟩
    simp only [List.mem_cons, List.not_mem_nil, or_false] at hx
    rcases hx with rfl | rfl <;> decide
  · cases row with
    | nil => rw [List.length_nil] at hl; omega
    | cons p r =>
      cases r with
      | nil => rw [List.length_cons, List.length_nil] at hl; omega
      | cons c v => exact ⟨p, c, v, by rw [if_neg (by simp)], h5, hp, .inr ⟨by simp, by rw [List.length_cons, List.length_cons] at hl; omega⟩⟩
/-- what a step of hand i, whose deed is d, wants -/
structure HandPre (many i : Nat) (d : Deed) (boxes : List Int) (h : HandM) : Prop where
  hi : i < many
  m4 : many ≤ 4
  ok : d.ok
  took : h.took.length = many
  tk : d = .take → i = 0
  bl : boxes.length = 5 * many
  bx : ∀ j, j < many → BoxOk many d.thing (boxes.getD (d.thing * many + j) 0)
  rdl : h.reading.length < many
  rd : ∀ n ∈ h.reading, BoxOk many d.thing n
  rd0 : h.steps = 0 → h.reading = []
  rds : h.steps ≠ 0 → ∀ r ∈ h.readings, RdOk many d.thing r
  out : h.steps ≠ 0 → ∀ o, h.out = some o → o.num.isSome = true ∧ d.puts = true
  len : h.readings.length < 1000
theorem last_cons (a : List Int) (l : List (List Int)) (r : List Int) : last ((a :: l) ++ [r]) = r := by
  unfold last
  rw [List.getLastD_eq_getLast?, List.getLast?_append]
  rfl
end Sd
namespace Sd
theorem least_some : ∀ {l : List (Int × Nat × Int)}, l.Pairwise (fun a b => a.2.1 < b.2.1) → l ≠ [] → ∃ y, least l = some y ∧ y ∈ l ∧ ∀ x ∈ l, y.1 < x.1 ∨ (y.1 = x.1 ∧ (y = x ∨ y.2.1 < x.2.1))
  | [], _, h => absurd rfl h
  | x :: xs, hp, _ => by
    unfold least
    cases xs with
    | nil =>
      refine ⟨x, rfl, List.mem_cons_self, fun z hz => ?_⟩
      rw [List.mem_singleton.mp hz]
      exact .inr ⟨rfl, .inl rfl⟩
    | cons a as =>
      obtain ⟨y, h1, h2, h3⟩ := least_some (List.pairwise_cons.mp hp).2 (by simp)
      have hx := (List.pairwise_cons.mp hp).1
      rw [h1]
      dsimp only
      by_cases c : y.1 < x.1
      · rw [if_pos c]
        refine ⟨y, rfl, List.mem_cons_of_mem _ h2, fun z hz => ?_⟩
        rcases List.mem_cons.mp hz with rfl | hz
        · exact .inl c
        · exact h3 z hz
      · rw [if_neg c]
        refine ⟨x, rfl, List.mem_cons_self, fun z hz => ?_⟩
        rcases List.mem_cons.mp hz with rfl | hz
        · exact .inr ⟨rfl, .inl rfl⟩
        · have := hx z hz
          rcases h3 z hz with h | ⟨h, _⟩
          · exact .inl (by omega)
          · by_cases e : x.1 = z.1
            · exact .inr ⟨e, .inr this⟩
            · exact .inl (by omega)
theorem left_sorted (took : List Nat) (rows : List (List Int)) : (left took rows).Pairwise (fun a b => a.2.1 < b.2.1) := by
  unfold left
  refine List.Pairwise.filterMap _ (R := fun a b => a < b) ?_ List.pairwise_lt_range
  intro a b hab x hx y hy
  split at hx
  · split at hy
    · cases hx
      cases hy
      exact hab
    · cases hy
  · cases hx
theorem least_nil_iff (l : List (Int × Nat × Int)) : least l = none ↔ l = [] := by
  cases l with
  | nil => exact ⟨fun _ => rfl, fun _ => rfl⟩
  | cons x xs =>
    refine ⟨fun h => ?_, fun h => by cases h⟩
    unfold least at h
    cases e : least xs with
    | none => rw [e] at h; cases h
    | some y =>
      rw [e] at h
      dsimp only at h
      split at h <;> cases h
end Sd
namespace Sd
theorem RdOk.pic {many : Nat} {r : List Int} (h : RdOk many 1 r) {n : Int} (hn : n ∈ r) : PicOk many n := h.2 n hn
theorem sum_le {l : List Int} (h : ∀ x ∈ l, 0 ≤ x ∧ x ≤ 1000) : 0 ≤ l.sum ∧ l.sum ≤ 1000 * l.length := by
  induction l with
  | nil => exact ⟨Int.le_refl _, Int.le_refl _⟩
  | cons x l ih =>
    have h1 := h x List.mem_cons_self
    have h2 := ih fun y hy => h y (List.mem_cons_of_mem _ hy)
    rw [List.sum_cons, List.length_cons]
    omega
theorem borrowed_some {first now : List Int} {v : List Int} : ∀ {hs : List Nat}, borrowed first now hs = some v → ∃ h ∈ hs, (row0 (now.getD h 0)).getD 0 0 - (row0 (first.getD h 0)).getD 0 0 ≥ 2 ∧ v = (row0 (now.getD h 0)).drop 2
  | [], h => by cases h
  | a :: hs, h => by
    unfold borrowed at h
    split at h
    · rename_i c
      cases h
      exact ⟨a, List.mem_cons_self, c, rfl⟩
    · obtain ⟨b, h1, h2⟩ := borrowed_some h
      exact ⟨b, List.mem_cons_of_mem _ h1, h2⟩
theorem view_ok {many : Nat} {rds : List (List Int)} {v : List Int} (hr : ∀ r ∈ rds, RdOk many 1 r) (h0 : 0 < many) (h4 : many ≤ 4) (h : view many rds = some v) : v.length = many + 1 ∧ In6 v := by
  unfold view at h
  by_cases c : rds.length < 2
  · rw [if_pos c] at h; cases h
  rw [if_neg c] at h
  have hne : rds ≠ [] := fun e => by rw [e] at c; exact c (by decide)
  have hl : last rds ∈ rds := by
    unfold last
    rw [List.getLastD_eq_getLast?, List.getLast?_eq_some_getLast hne]
    exact List.getLast_mem _
  have hlo := hr _ hl
  by_cases e : last rds = last rds.dropLast
  · rw [if_pos e] at h
    cases h
    refine ⟨by rw [List.length_cons, List.length_map, hlo.1], ?_⟩
    refine In6.cons ?_ ?_ fun x hx => ?_
    · exact (sum_le fun x hx => by
        obtain ⟨n, hn, rfl⟩ := List.mem_map.mp hx
        obtain ⟨p, c, v, e1, e2, e3, _⟩ := (hlo.pic hn).row0
        rw [e1]
        exact ⟨(e2 p List.mem_cons_self).1, e3⟩).1
    · have := (sum_le (l := (last rds).map fun n => (row0 n).getD 0 0) fun x hx => by
        obtain ⟨n, hn, rfl⟩ := List.mem_map.mp hx
        obtain ⟨p, c, v, e1, e2, e3, _⟩ := (hlo.pic hn).row0
        rw [e1]
        exact ⟨(e2 p List.mem_cons_self).1, e3⟩).2
      rw [List.length_map, hlo.1] at this
      omega
    · obtain ⟨n, hn, rfl⟩ := List.mem_map.mp hx
      obtain ⟨p, c, v, e1, e2, e3, _⟩ := (hlo.pic hn).row0
      rw [e1]
      have := e2 c (List.mem_cons_of_mem _ List.mem_cons_self)
      exact ⟨this.1, Int.lt_trans this.2 (by decide)⟩
  · rw [if_neg e] at h
    obtain ⟨b, hb, h1, rfl⟩ := borrowed_some h
    have hbm : b < many := List.mem_range.mp hb
    have hfi : (rds.headD []) ∈ rds := by
      cases rds with
      | nil => exact absurd rfl hne
      | cons r rr => exact List.mem_cons_self
    have hfo := hr _ hfi
    have g1 : (last rds).getD b 0 ∈ last rds := by
      rw [List.getD_eq_getElem?_getD, List.getElem?_eq_getElem (by rw [hlo.1]; exact hbm)]
      exact List.getElem_mem _
    have g2 : (rds.headD []).getD b 0 ∈ rds.headD [] := by
      rw [List.getD_eq_getElem?_getD, List.getElem?_eq_getElem (by rw [hfo.1]; exact hbm)]
      exact List.getElem_mem _
    obtain ⟨p, c, v, e1, e2, e3, e4⟩ := (hlo.pic g1).row0
    obtain ⟨p', c', v', e1', e2', e3', _⟩ := (hfo.pic g2).row0
    rw [e1, e1'] at h1
    have hp' := (e2' p' List.mem_cons_self).1
    have hp2 : 2 ≤ p := by
      have h1' : p - p' ≥ 2 := h1
      omega
    rw [e1]
    rcases e4 with ⟨e4, e5⟩ | ⟨_, e5⟩
    · exfalso
      have : row0 ((last rds).getD b 0) = [0, 0] := by unfold row0; rw [if_pos e4]
      rw [this] at e1
      injection e1 with e1
      omega
    · exact ⟨e5, fun x hx => by
        have := e2 x (List.mem_cons_of_mem _ (List.mem_cons_of_mem _ hx))
        exact ⟨this.1, Int.lt_trans this.2 (by decide)⟩⟩
end Sd
namespace Sd
theorem Deed.thing_le : ∀ d : Deed, d.thing ≤ 4
  | .one | .count => (by decide : 0 ≤ 4)
  | .set _ | .look => (by decide : 1 ≤ 4)
  | .add _ | .sum => (by decide : 2 ≤ 4)
  | .rais _ | .top => (by decide : 3 ≤ 4)
  | .give _ | .take => (by decide : 4 ≤ 4)
/-- a deed's first look, before anything was taken -/
theorem out_nil {many i : Nat} {d : Deed} {h : HandM} {o : Out} (e : outOf many i d { h with readings := [] } = some o) : o.num.isSome = true ∧ d.puts = true := by
  cases d with
  | one => cases e; exact ⟨rfl, rfl⟩
  | count => cases e
  | give n => cases e
  | take => cases e
  | set n => cases e
  | look => cases e
  | add n => cases e
  | sum => cases e
  | rais n => cases e
  | top => cases e
theorem act_put {many i now : Nat} {d : Deed} {boxes : List Int} {h : HandM} {o : Out} (e : h.out = some o) :
    h.act many i d boxes now = ⟨(h.done i d now o).1, boxes.set (d.thing * many + i) (o.num.getD 0), ⟨i, true, d.thing * many + i, o.num.getD 0⟩, some (h.done i d now o).2⟩ := by
  unfold HandM.act
  rw [e]
theorem act_take0 {many i now : Nat} {d : Deed} {boxes : List Int} {h : HandM} (e : h.out = none) {h2 : HandM} (k : h.keep many i d (boxes.getD (h.place many d) 0) = h2) (c : h2.out = none ∨ ∃ o, h2.out = some o ∧ o.num.isSome = true) :
    h.act many i d boxes now = ⟨h2, boxes, ⟨i, false, h.place many d, boxes.getD (h.place many d) 0⟩, none⟩ := by
  unfold HandM.act
  rw [e]
  dsimp only
  rw [k]
  rcases c with c | ⟨o, c, c2⟩
  · rw [c]
  · rw [c]
    dsimp only
    rw [if_pos c2]
theorem act_take1 {many i now : Nat} {d : Deed} {boxes : List Int} {h : HandM} {o : Out} (e : h.out = none) {h2 : HandM} (k : h.keep many i d (boxes.getD (h.place many d) 0) = h2) (c : h2.out = some o) (c2 : o.num = none) :
    h.act many i d boxes now = ⟨(h2.done i d now o).1, boxes, ⟨i, false, h.place many d, boxes.getD (h.place many d) 0⟩, some (h2.done i d now o).2⟩ := by
  unfold HandM.act
  rw [e]
  dsimp only
  rw [k, c]
  dsimp only
  rw [if_neg (by rw [c2]; exact Bool.false_ne_true)]
theorem start_eq (many i now : Nat) (d : Deed) (h : HandM) : (h.start many i d now).took = h.took ∧ (h.start many i d now).reading = h.reading ∧ (h.start many i d now).ended = h.ended ∧ (h.start many i d now).ones = h.ones ∧ (h.start many i d now).steps = h.steps := by
  unfold HandM.start
  split <;> exact ⟨rfl, rfl, rfl, rfl, rfl⟩
theorem take_mark {many i : Nat} {h : HandM} {o : Out} (hr : ∀ r ∈ h.readings, r.length = many) (e : outOf many i .take h = some o) : o.num = none ∧ (o.mark = .non ∨ ∃ k l, o.mark = .gift k l ∧ k < many) := by
  have e' : lineOut i .take h.took h.readings = some o := e
  unfold lineOut at e'
  by_cases hn : h.readings = []
  · rw [if_pos hn] at e'; cases e'
  · rw [if_neg hn] at e'
    dsimp only at e'
    split at e'
    · cases e'
      exact ⟨rfl, .inl rfl⟩
    · rename_i l hl
      split at e'
      · cases e'
      · cases e'
        refine ⟨rfl, .inr ⟨_, _, rfl, ?_⟩⟩
        have hne : left h.took ((last h.readings).map dec) ≠ [] := fun z => by rw [z] at hl; cases hl
        obtain ⟨y, h1, h2, _⟩ := least_some (left_sorted _ _) hne
        rw [hl] at h1
        cases h1
        unfold left at h2
        obtain ⟨h', hh', e2⟩ := List.mem_filterMap.mp h2
        have hlast : last h.readings ∈ h.readings := by
          unfold last
          rw [List.getLastD_eq_getLast?, List.getLast?_eq_some_getLast hn]
          exact List.getLast_mem _
        rw [List.mem_range, List.length_map, hr _ hlast] at hh'
        split at e2
        · cases e2
          exact hh'
        · cases e2
theorem keep_out {many i : Nat} {d : Deed} {n : Int} {h : HandM} {o : Out} (h0 : h.out = none) (e : (h.keep many i d n).out = some o) : (h.reading ++ [n]).length = many ∧ outOf many i d { h with readings := h.readings ++ [h.reading ++ [n]] } = some o := by
  unfold HandM.keep at e
  dsimp only at e
  split at e
  · rename_i c
    exact ⟨c, e⟩
  · rw [h0] at e
    cases e
theorem keep_eq (many i : Nat) (d : Deed) (n : Int) (h : HandM) : (h.keep many i d n).took = h.took ∧ (h.keep many i d n).beg = h.beg := by
  unfold HandM.keep
  dsimp only
  split <;> exact ⟨rfl, rfl⟩
/-- the hall may do a step -/
structure StepOk (s : HallM) : Prop where
  hl : s.hands.length = s.many
  pre : ∀ i, i < s.many → ∀ d, (s.plan i)[(s.hand i).ended]? = some d → HandPre s.many i d s.boxes (s.hand i)
  le : ∀ i, i < s.many → (s.hand i).ended ≤ (s.plan i).length
  n1 : s.touches.length < 1000000
  n2 : s.recs.length < 1000000
  n3 : s.marks.length < 1000000
end Sd

/-! judging, plain words -/
namespace Sd
structure RecOk (m : Nat) (r : Rec) : Prop where
  hand : r.hand < m
  ok : r.deed.ok
/-- one deed behind another -/
def runK (recs : List Rec) : List Nat → L5 → Int → Bool
  | [], _, _ => true
  | p :: ps, s, lt => match recs[p]? with
    | none => false
    | some r => if (r.fin : Int) < lt then false else if s.ans r.deed = r.ans then runK recs ps (s.behind r.hand r.deed) (if (r.beg : Int) > lt then r.beg else lt) else false
def rangeI (n : Nat) : List Int := (List.range n).map fun i : Nat => (i : Int)
def keepsM (recs : List Rec) (order : List Int) (m : Nat) : Bool :=
  if order.Perm (rangeI recs.length) then runK recs (order.map Int.toNat) (L5.first m) (-1) else false
theorem rangeI_sorted (n : Nat) : (rangeI n).Pairwise (· ≤ ·) := by
  unfold rangeI
  rw [List.pairwise_map]
  exact List.Pairwise.imp (fun h => by omega) List.pairwise_lt_range
theorem sorted_eq {ns ns' : List Int} {n : Nat} (hp : ns'.Perm ns) (hs : ns'.Pairwise (· ≤ ·)) : decide (ns' = rangeI n) = decide (ns.Perm (rangeI n)) := by
  refine decide_eq_decide.mpr ⟨fun e => ?_, fun h => ?_⟩
  · rw [← e]
    exact hp.symm
  · exact List.Perm.eq_of_pairwise (le := (· ≤ ·)) (fun a b _ _ h1 h2 => Int.le_antisymm h1 h2) hs (rangeI_sorted n) (hp.trans h)
theorem mem_rangeI {n : Nat} {x : Int} (h : x ∈ rangeI n) : ∃ i : Nat, x = i ∧ i < n := by
  obtain ⟨i, hi, rfl⟩ := List.mem_map.mp h
  exact ⟨i, rfl, List.mem_range.mp hi⟩
end Sd
namespace Sd
/-- the program's own walk -/
def runS (recs : List Rec) : List Nat → St5 → Int → Bool
  | [], _, _ => true
  | p :: ps, s, lt => match recs[p]? with
    | none => false
    | some r => if (r.fin : Int) < lt then false else if s.ans r.deed = r.ans then runS recs ps (s.behind r.hand r.deed) (if (r.beg : Int) > lt then r.beg else lt) else false
theorem runS_eq {recs : List Rec} {m : Nat} (hok : ∀ r ∈ recs, RecOk m r) : ∀ (ps : List Nat) (s : St5) (l : L5) (lt : Int), Sim s l → l.Ok m → l.line.length + ps.length < 10000 → runS recs ps s lt = runK recs ps l lt
  | [], _, _, _, _, _, _ => rfl
  | p :: ps, s, l, lt, hs, ho, hl => by
    show (match recs[p]? with | none => false | some r => _) = (match recs[p]? with | none => false | some r => _)
    cases e : recs[p]? with
    | none => rfl
    | some r =>
      dsimp only
      have h := hok r (List.mem_of_getElem? e)
      rw [hs.ans r.deed]
      by_cases c : (r.fin : Int) < lt
      · rw [if_pos c, if_pos c]
      · rw [if_neg c, if_neg c]
        by_cases c2 : l.ans r.deed = r.ans
        · rw [if_pos c2, if_pos c2]
          rw [List.length_cons] at hl
          have := l.len_behind r.hand r.deed
          exact runS_eq hok ps _ _ _ (hs.behind ho h.hand h.ok) (ho.behind h.ok (by omega)) (by omega)
        · rw [if_neg c2, if_neg c2]
theorem keepsS {recs : List Rec} {order : List Int} {m : Nat} (hok : ∀ r ∈ recs, RecOk m r) (hl : recs.length ≤ 9000) (hp : order.Perm (rangeI recs.length)) : keepsM recs order m = runS recs (order.map Int.toNat) (St5.first m) (-1) := by
  have hlo : order.length = recs.length := by
    have := hp.length_eq
    unfold rangeI at this
    rw [List.length_map, List.length_range] at this
    exact this
  unfold keepsM
  rw [if_pos hp]
  exact (runS_eq hok _ _ _ _ (Sim.first m) (L5.Ok.first m) (by rw [List.length_map]; show 0 + _ < _; omega)).symm
end Sd
namespace Sd
theorem St5.cells_behind (s : St5) (h : Nat) (d : Deed) : (s.behind h d).cells.length = s.cells.length := by
  cases d with
  | set n => exact List.length_set
  | _ => rfl
theorem St5.len_behind (s : St5) (h : Nat) (d : Deed) : (s.behind h d).line.length ≤ s.line.length + 1 := by
  cases d with
  | give n => show (s.line ++ [n]).length ≤ _; rw [List.length_append]; exact Nat.le_refl _
  | take => show (s.line.drop 1).length ≤ _; rw [List.length_drop]; omega
  | _ => exact Nat.le_succ _
end Sd

/-! what was put, by things: the changes of a thing, in the order of their puts -/
namespace Sd
structure Chg where
  r : Rec
  num : Int
  st : Int
def own (C : List Chg) (k h : Nat) : List Chg := (C.take k).filter fun c => c.r.hand == h
def raw (C : List Chg) (k h : Nat) : Int := ((own C k h).getLast?.map (·.num)).getD 0
def cnt (C : List Chg) (k h : Nat) : Nat := (own C k h).length
theorem own_app {C D : List Chg} {k h : Nat} (hk : k ≤ C.length) : own (C ++ D) k h = own C k h := by
  unfold own
  rw [List.take_append_of_le_length hk]
theorem raw_app {C D : List Chg} {k h : Nat} (hk : k ≤ C.length) : raw (C ++ D) k h = raw C k h := by
  unfold raw
  rw [own_app hk]
theorem cnt_app {C D : List Chg} {k h : Nat} (hk : k ≤ C.length) : cnt (C ++ D) k h = cnt C k h := by
  unfold cnt
  rw [own_app hk]
theorem own_succ {C : List Chg} {k : Nat} {c : Chg} (e : C[k]? = some c) (h : Nat) : own C (k + 1) h = if c.r.hand = h then own C k h ++ [c] else own C k h := by
  obtain ⟨hk, ec⟩ := List.getElem?_eq_some_iff.mp e
  unfold own
  rw [List.take_succ_eq_append_getElem hk, ec, List.filter_append]
  by_cases q : c.r.hand = h
  · rw [if_pos q, List.filter_cons_of_pos (by simpa using q), List.filter_nil]
  · rw [if_neg q, List.filter_cons_of_neg (by simpa using q), List.filter_nil, List.append_nil]
theorem own_snoc {C : List Chg} {c : Chg} (h : Nat) : own (C ++ [c]) (C.length + 1) h = if c.r.hand = h then own C C.length h ++ [c] else own C C.length h := by
  have e : (C ++ [c])[C.length]? = some c := by rw [List.getElem?_append_right (Nat.le_refl _), Nat.sub_self]; rfl
  rw [own_succ e, own_app (Nat.le_refl _)]
theorem own_zero (C : List Chg) (h : Nat) : own C 0 h = [] := by unfold own; rw [List.take_zero]; rfl
theorem own_prefix {C : List Chg} {k k' : Nat} (h : Nat) (hk : k ≤ k') : own C k h <+: own C k' h := by
  unfold own
  refine List.IsPrefix.filter _ ?_
  exact List.take_prefix_take_left hk
theorem cnt_mono {C : List Chg} {k k' : Nat} (h : Nat) (hk : k ≤ k') : cnt C k h ≤ cnt C k' h := (own_prefix h hk).length_le
theorem own_eq {C : List Chg} {k k' : Nat} {h : Nat} (hk : k ≤ k') (e : cnt C k h = cnt C k' h) : own C k h = own C k' h := (own_prefix h hk).eq_of_length e
theorem cnt_le (C : List Chg) (k h : Nat) : cnt C k h ≤ k := Nat.le_trans (List.length_filter_le _ _) (by rw [List.length_take]; exact Nat.min_le_left _ _)
theorem mem_own {C : List Chg} {k h : Nat} {c : Chg} : c ∈ own C k h → c ∈ C ∧ c.r.hand = h := by
  intro m
  obtain ⟨a, b⟩ := List.mem_filter.mp m
  exact ⟨List.mem_of_mem_take a, by simpa using b⟩
/-- a change in the midst -/
theorem at_snoc {C : List Chg} {c : Chg} {q : Nat} {d : Chg} (e : (C ++ [c])[q]? = some d) : (q < C.length ∧ C[q]? = some d) ∨ (q = C.length ∧ d = c) := by
  by_cases h : q < C.length
  · rw [List.getElem?_append_left h] at e
    exact .inl ⟨h, e⟩
  · rw [List.getElem?_append_right (by omega)] at e
    have h0 : q - C.length = 0 := by
      have := (List.getElem?_eq_some_iff.mp e).1
      simp only [List.length_cons, List.length_nil] at this
      omega
    rw [h0] at e
    cases e
    exact .inr ⟨by omega, rfl⟩
/-! sums over the hands -/
def sumH (m : Nat) (f : Nat → Int) : Int := ((List.range m).map f).sum
theorem sumH_succ (m : Nat) (f : Nat → Int) : sumH (m + 1) f = sumH m f + f m := by
  unfold sumH
  rw [List.range_succ, List.map_append, List.sum_append]
  simp
theorem sumH_congr {m : Nat} {f g : Nat → Int} (h : ∀ j, j < m → f j = g j) : sumH m f = sumH m g := by
  unfold sumH
  rw [List.map_congr_left fun j hj => h j (List.mem_range.mp hj)]
theorem sumH_le {f g : Nat → Int} : ∀ {m : Nat}, (∀ j, j < m → f j ≤ g j) → sumH m f ≤ sumH m g
  | 0, _ => Int.le_refl _
  | m + 1, h => by
    rw [sumH_succ, sumH_succ]
    have h1 := sumH_le (m := m) fun j hj => h j (by omega)
    have h2 := h m (by omega)
    omega
theorem sumH_lt {f g : Nat → Int} : ∀ {m : Nat}, (∀ j, j < m → f j ≤ g j) → (∃ j, j < m ∧ f j < g j) → sumH m f < sumH m g
  | 0, _, ⟨j, hj, _⟩ => by omega
  | m + 1, h, ⟨j, hj, hl⟩ => by
    rw [sumH_succ, sumH_succ]
    have h2 := h m (by omega)
    by_cases e : j = m
    · subst e
      have h1 := sumH_le (m := j) fun i hi => h i (by omega)
      omega
    · have h1 := sumH_lt (m := m) (fun i hi => h i (by omega)) ⟨j, by omega, hl⟩
      omega
theorem sumH_one {f g : Nat → Int} {a : Nat} : ∀ {m : Nat}, a < m → (∀ j, j < m → g j = if j = a then f j + 1 else f j) → sumH m g = sumH m f + 1
  | 0, h, _ => by omega
  | m + 1, h, e => by
    rw [sumH_succ, sumH_succ, e m (by omega)]
    by_cases q : m = a
    · subst q
      rw [if_pos rfl, sumH_congr (g := f) fun j hj => (e j (by omega)).trans (if_neg (by omega))]
      omega
    · rw [if_neg q, sumH_one (m := m) (by omega) fun j hj => e j (by omega)]
      omega
theorem sumH_zero (m : Nat) : sumH m (fun _ => 0) = 0 := by
  induction m with
  | zero => rfl
  | succ m ih => rw [sumH_succ, ih]; rfl
theorem sum_cnt {C : List Chg} {m : Nat} (hh : ∀ c ∈ C, c.r.hand < m) : ∀ k, k ≤ C.length → sumH m (fun h => (cnt C k h : Int)) = k
  | 0, _ => by
    rw [sumH_congr (g := fun _ => 0) fun j _ => by unfold cnt; rw [own_zero]; rfl, sumH_zero]
    rfl
  | k + 1, hk => by
    have hk' : k < C.length := hk
    have ih := sum_cnt hh k (by omega)
    have e : C[k]? = some C[k] := List.getElem?_eq_getElem hk'
    have hm := hh _ (List.getElem_mem hk')
    rw [sumH_one (f := fun h => (cnt C k h : Int)) hm fun j _ => ?_, ih]
    · omega
    · unfold cnt
      rw [own_succ e]
      by_cases q : j = C[k].r.hand
      · rw [if_pos q, if_pos q.symm, List.length_append]
        rfl
      · rw [if_neg q, if_neg (Ne.symm q)]
/-! cells -/
def cellStep (cs : List Int) (c : Chg) : List Int := cs.set c.r.hand (behindCell (cs.getD c.r.hand 0) c.r.deed)
def cellsAt (m : Nat) (C : List Chg) (k : Nat) : List Int := (C.take k).foldl cellStep (List.replicate m 0)
theorem cellsAt_app {m : Nat} {C D : List Chg} {k : Nat} (hk : k ≤ C.length) : cellsAt m (C ++ D) k = cellsAt m C k := by
  unfold cellsAt
  rw [List.take_append_of_le_length hk]
theorem cellsAt_succ {m : Nat} {C : List Chg} {k : Nat} {c : Chg} (e : C[k]? = some c) : cellsAt m C (k + 1) = cellStep (cellsAt m C k) c := by
  obtain ⟨hk, ec⟩ := List.getElem?_eq_some_iff.mp e
  unfold cellsAt
  rw [List.take_succ_eq_append_getElem hk, ec, List.foldl_append]
  rfl
theorem cellsAt_len (m : Nat) (C : List Chg) (k : Nat) : (cellsAt m C k).length = m := by
  unfold cellsAt
  have : ∀ (l : List Chg) (cs : List Int), (l.foldl cellStep cs).length = cs.length := by
    intro l
    induction l with
    | nil => intro cs; rfl
    | cons c l ih => intro cs; rw [List.foldl_cons, ih]; exact List.length_set
  rw [this, List.length_replicate]
/-- a hand's cell is what its own changes made of it -/
theorem cell_own {m : Nat} {C : List Chg} {h : Nat} (hm : h < m) : ∀ k, k ≤ C.length → (cellsAt m C k).getD h 0 = (own C k h).foldl (fun x c => behindCell x c.r.deed) 0
  | 0, _ => by
    rw [own_zero]
    show (List.replicate m (0 : Int)).getD h 0 = 0
    rw [List.getD_eq_getElem?_getD, List.getElem?_replicate_of_lt hm]
    rfl
  | k + 1, hk => by
    have hk' : k < C.length := hk
    have ih := cell_own (m := m) (C := C) hm k (by omega)
    have e : C[k]? = some C[k] := List.getElem?_eq_getElem hk'
    rw [own_succ e, cellsAt_succ e]
    unfold cellStep
    by_cases q : C[k].r.hand = h
    · rw [if_pos q, List.foldl_append, ← ih, q]
      rw [List.getD_eq_getElem?_getD, List.getElem?_set_self (by rw [cellsAt_len]; exact hm)]
      rfl
    · rw [if_neg q, ← ih, List.getD_eq_getElem?_getD, List.getElem?_set_ne q, ← List.getD_eq_getElem?_getD]
theorem cell_zero {m : Nat} {C : List Chg} {h k : Nat} (hm : h < m) (hk : k ≤ C.length) (e : cnt C k h = 0) : (cellsAt m C k).getD h 0 = 0 := by
  rw [cell_own hm k hk, List.length_eq_zero_iff.mp e]
  rfl
theorem cell_bd {x : Int} {d : Deed} {k : Nat} (hd : d.ok) (h : 0 ≤ x ∧ x ≤ 999 * k) : 0 ≤ behindCell x d ∧ behindCell x d ≤ 999 * (k + 1 : Nat) := by
  cases d with
  | set n => have := hd; show 0 ≤ n ∧ n ≤ _; exact ⟨this.1, by have := this.2; omega⟩
  | add n => have := hd; show 0 ≤ x + n ∧ x + n ≤ _; have h1 := this.1; have h2 := this.2; omega
  | rais n => have := hd; have h1 := this.1; have h2 := this.2; show 0 ≤ (if n > x then n else x) ∧ (if n > x then n else x) ≤ _; split <;> omega
  | _ => show 0 ≤ x ∧ x ≤ _; omega
theorem cells_bd {m : Nat} {C : List Chg} (hd : ∀ c ∈ C, c.r.deed.ok) : ∀ k, k ≤ C.length → ∀ x ∈ cellsAt m C k, 0 ≤ x ∧ x ≤ 999 * (k : Nat)
  | 0, _, x, hx => by
    rw [List.eq_of_mem_replicate hx]
    exact ⟨Int.le_refl _, by omega⟩
  | k + 1, hk, x, hx => by
    have hk' : k < C.length := hk
    have e : C[k]? = some C[k] := List.getElem?_eq_getElem hk'
    have ih := cells_bd (m := m) hd k (by omega)
    rw [cellsAt_succ e] at hx
    rcases List.mem_or_eq_of_mem_set hx with hx | hx
    · have := ih x hx
      omega
    · rw [hx]
      refine cell_bd (hd _ (List.getElem_mem hk')) ?_
      by_cases q : C[k].r.hand < (cellsAt m C k).length
      · refine ih _ ?_
        rw [List.getD_eq_getElem?_getD, List.getElem?_eq_getElem q]
        exact List.getElem_mem q
      · rw [List.getD_eq_getElem?_getD, List.getElem?_eq_none (Nat.le_of_not_lt q)]
        exact ⟨Int.le_refl _, by show (0 : Int) ≤ _; omega⟩
theorem list_eq_range {l : List Int} {m : Nat} (h : l.length = m) : l = (List.range m).map fun j => l.getD j 0 := by
  refine List.ext_getElem? fun i => ?_
  by_cases hi : i < m
  · rw [List.getElem?_map, List.getElem?_range hi, Option.map_some, List.getD_eq_getElem?_getD, List.getElem?_eq_getElem (by omega)]
    rfl
  · rw [List.getElem?_eq_none (by omega), List.getElem?_eq_none (by rw [List.length_map, List.length_range]; omega)]
end Sd

/-! what the boxes hold, thing by thing, and what scans tell -/
namespace Sd
/-! pictures -/
def PicAt (m : Nat) (C : List Chg) (c : Chg) : Prop := c.r.hand < m ∧ ∃ K, K ≤ C.length ∧ cnt C K c.r.hand = cnt C C.length c.r.hand ∧
  c.num = enc ((((cnt C C.length c.r.hand : Nat) : Int) + 1) :: behindCell ((cellsAt m C C.length).getD c.r.hand 0) c.r.deed :: (K : Int) :: cellsAt m C K)
inductive PicHist (m : Nat) : List Chg → Prop
  | nil : PicHist m []
  | snoc {C : List Chg} {c : Chg} : PicHist m C → PicAt m C c → PicHist m (C ++ [c])
theorem PicHist.hands {m : Nat} {C : List Chg} (h : PicHist m C) : ∀ c ∈ C, c.r.hand < m := by
  induction h with
  | nil => intro c hc; cases hc
  | snoc h k ih =>
    intro c hc
    rcases List.mem_append.mp hc with hc | hc
    · exact ih c hc
    · rw [List.mem_singleton.mp hc]
      exact k.1
theorem raw_none {C : List Chg} {k h : Nat} (e : cnt C k h = 0) : raw C k h = 0 := by
  unfold raw
  rw [List.length_eq_zero_iff.mp e]
  rfl
theorem picRaw {m : Nat} {C : List Chg} (hc : PicHist m C) : ∀ k, k ≤ C.length → ∀ h, (cnt C k h = 0 ∧ raw C k h = 0) ∨
    (∃ K, K ≤ k ∧ cnt C K h + 1 = cnt C k h ∧ h < m ∧ raw C k h = enc (((cnt C k h : Nat) : Int) :: (cellsAt m C k).getD h 0 :: (K : Int) :: cellsAt m C K)) := by
  induction hc with
  | nil =>
    intro k hk h
    have e : k = 0 := Nat.le_zero.mp hk
    subst e
    exact .inl ⟨rfl, rfl⟩
  | snoc hC hc ih =>
    rename_i C c
    intro k hk h
    by_cases q : k ≤ C.length
    · rcases ih k q h with ⟨h1, h2⟩ | ⟨K, h1, h2, h3, h4⟩
      · exact .inl ⟨by rw [cnt_app q]; exact h1, by rw [raw_app q]; exact h2⟩
      · exact .inr ⟨K, h1, by rw [cnt_app q, cnt_app (Nat.le_trans h1 q)]; exact h2, h3, by rw [raw_app q, cnt_app q, cellsAt_app q, cellsAt_app (Nat.le_trans h1 q)]; exact h4⟩
    · have e : k = C.length + 1 := by
        rw [List.length_append] at hk
        simp only [List.length_cons, List.length_nil] at hk
        omega
      subst e
      have ec : (C ++ [c])[C.length]? = some c := by rw [List.getElem?_append_right (Nat.le_refl _), Nat.sub_self]; rfl
      by_cases s : c.r.hand = h
      · obtain ⟨g1, K, g2, g3, g4⟩ := hc
        subst s
        have ho := own_snoc (C := C) (c := c) c.r.hand
        rw [if_pos rfl] at ho
        have hn : cnt (C ++ [c]) (C.length + 1) c.r.hand = cnt C C.length c.r.hand + 1 := by
          show (own _ _ _).length = _
          rw [ho, List.length_append]
          rfl
        refine .inr ⟨K, by omega, by rw [hn, cnt_app g2, g3], g1, ?_⟩
        unfold Sd.raw
        rw [ho, List.getLast?_append]
        show c.num = _
        rw [g4, hn, cellsAt_succ ec, cellsAt_app (Nat.le_refl _), cellsAt_app g2]
        congr 2
        unfold cellStep
        rw [List.getD_eq_getElem?_getD (i := c.r.hand) (l := List.set _ _ _), List.getElem?_set_self (by rw [cellsAt_len]; exact g1)]
        rfl
      · have ho := own_snoc (C := C) (c := c) h
        rw [if_neg s] at ho
        have hn : cnt (C ++ [c]) (C.length + 1) h = cnt C C.length h := by
          show (own _ _ _).length = _
          rw [ho]
          rfl
        have hr : raw (C ++ [c]) (C.length + 1) h = raw C C.length h := by
          unfold Sd.raw
          rw [ho]
        have hcl : (cellsAt m (C ++ [c]) (C.length + 1)).getD h 0 = (cellsAt m C C.length).getD h 0 := by
          rw [cellsAt_succ ec, cellsAt_app (Nat.le_refl _)]
          unfold cellStep
          rw [List.getD_eq_getElem?_getD, List.getElem?_set_ne s, ← List.getD_eq_getElem?_getD]
        rcases ih C.length (Nat.le_refl _) h with ⟨h1, h2⟩ | ⟨K, h1, h2, h3, h4⟩
        · exact .inl ⟨by rw [hn]; exact h1, by rw [hr]; exact h2⟩
        · exact .inr ⟨K, by omega, by rw [hn, cnt_app h1]; exact h2, h3, by rw [hr, hn, hcl, cellsAt_app h1]; exact h4⟩
/-- sizes -/
structure Small (C : List Chg) : Prop where
  ok : ∀ c ∈ C, c.r.deed.ok
  len : C.length ≤ 160
theorem cells_In5 {m : Nat} {C : List Chg} (s : Small C) {k : Nat} (hk : k ≤ C.length) : In5 (cellsAt m C k) := fun x hx => by
  have h1 := cells_bd (m := m) s.ok k hk x hx
  have h2 := s.len
  omega
theorem In5.getD {l : List Int} (h : In5 l) (i : Nat) : 0 ≤ l.getD i 0 ∧ l.getD i 0 < 900000 := by
  rw [List.getD_eq_getElem?_getD]
  cases e : l[i]? with
  | none => decide
  | some x => exact h x (List.mem_of_getElem? e)
theorem In5.cons {x : Int} {l : List Int} (h0 : 0 ≤ x) (h1 : x < 900000) (h : In5 l) : In5 (x :: l) := fun y hy => by
  rcases List.mem_cons.mp hy with rfl | hy
  · exact ⟨h0, h1⟩
  · exact h y hy
theorem picDec {m : Nat} {C : List Chg} (hc : PicHist m C) (s : Small C) {k h : Nat} (hk : k ≤ C.length) : (cnt C k h = 0 ∧ Sd.dec (Sd.raw C k h) = []) ∨
    (∃ K, K ≤ k ∧ cnt C K h + 1 = cnt C k h ∧ h < m ∧ In5 (((cnt C k h : Nat) : Int) :: (cellsAt m C k).getD h 0 :: (K : Int) :: cellsAt m C K) ∧ Sd.dec (Sd.raw C k h) = ((cnt C k h : Nat) : Int) :: (cellsAt m C k).getD h 0 :: (K : Int) :: cellsAt m C K) := by
  rcases picRaw hc k hk h with ⟨h1, h2⟩ | ⟨K, h1, h2, h3, h4⟩
  · exact .inl ⟨h1, by rw [h2]; exact dec_small (by decide)⟩
  · have i5 : In5 (((cnt C k h : Nat) : Int) :: (cellsAt m C k).getD h 0 :: (K : Int) :: cellsAt m C K) := by
      have hl := s.len
      have hn := cnt_le C k h
      have hcl := (cells_In5 (m := m) s hk).getD h
      exact In5.cons (by omega) (by omega) (In5.cons hcl.1 hcl.2 (In5.cons (by omega) (by omega) (cells_In5 s (Nat.le_trans h1 hk))))
    exact .inr ⟨K, h1, h2, h3, i5, by rw [h4]; exact dec_enc i5.six⟩
theorem picRow0 {m : Nat} {C : List Chg} (hc : PicHist m C) (s : Small C) {k h : Nat} (hm : h < m) (hk : k ≤ C.length) :
    (Sd.row0 (Sd.raw C k h)).getD 0 0 = cnt C k h ∧ (Sd.row0 (Sd.raw C k h)).getD 1 0 = (cellsAt m C k).getD h 0 ∧
    (0 < cnt C k h → ∃ K, K ≤ k ∧ cnt C K h + 1 = cnt C k h ∧ (Sd.row0 (Sd.raw C k h)).drop 2 = (K : Int) :: cellsAt m C K) := by
  unfold Sd.row0
  rcases picDec hc s (h := h) hk with ⟨h1, h2⟩ | ⟨K, h1, h2, h3, h4, h5⟩
  · rw [if_pos h2, h1, cell_zero hm hk h1]
    exact ⟨rfl, rfl, fun z => absurd z (Nat.lt_irrefl _)⟩
  · rw [h5, if_neg (by simp)]
    exact ⟨rfl, rfl, fun _ => ⟨K, h1, h2, rfl⟩⟩
theorem picBox {m : Nat} {C : List Chg} (hc : PicHist m C) (s : Small C) {k h : Nat} (hk : k ≤ C.length) : PicOk m (Sd.raw C k h) := by
  rcases picRaw hc k hk h with ⟨h1, h2⟩ | ⟨K, h1, h2, h3, h4⟩
  · exact ⟨[], by rw [h2]; exact Row.zero, (fun x hx => by cases hx), .inl rfl⟩
  · have i5 : In5 (((cnt C k h : Nat) : Int) :: (cellsAt m C k).getD h 0 :: (K : Int) :: cellsAt m C K) := by
      have hl := s.len
      have hn := cnt_le C k h
      have hcl := (cells_In5 (m := m) s hk).getD h
      exact In5.cons (by omega) (by omega) (In5.cons hcl.1 hcl.2 (In5.cons (by omega) (by omega) (cells_In5 s (Nat.le_trans h1 hk))))
    refine ⟨_, by rw [h4]; exact Row.of i5.six, i5, .inr ⟨by simp [cellsAt_len], ?_⟩⟩
    have hn := cnt_le C k h
    have hl := s.len
    show (((cnt C k h : Nat) : Int)) ≤ 1000
    omega
/-! scans -/
def look1 (C : List Chg) (m : Nat) (ks : Nat → Nat) : List Int := (List.range m).map fun j => raw C (ks j) j
structure Scan (C : List Chg) (m b : Nat) (rds : List (List Int)) (rd : List Int) (kss : List (Nat → Nat)) (kr : Nat → Nat) : Prop where
  erds : rds = kss.map (look1 C m)
  erd : rd = look1 C rd.length kr
  mono : ∀ ks ∈ kss, ∀ j j', j ≤ j' → j' < m → ks j ≤ ks j'
  monor : ∀ j j', j ≤ j' → j' < rd.length → kr j ≤ kr j'
  pw : kss.Pairwise fun a b => ∀ j j', j < m → j' < m → a j ≤ b j'
  pwr : ∀ a ∈ kss, ∀ j j', j < m → j' < rd.length → a j ≤ kr j'
  lo : ∀ ks ∈ kss, ∀ j, j < m → b ≤ ks j ∧ ks j ≤ C.length
  lor : ∀ j, j < rd.length → b ≤ kr j ∧ kr j ≤ C.length
theorem look1_app {C D : List Chg} {m : Nat} {ks : Nat → Nat} (h : ∀ j, j < m → ks j ≤ C.length) : look1 (C ++ D) m ks = look1 C m ks :=
  List.map_congr_left fun j hj => raw_app (h j (List.mem_range.mp hj))
theorem Scan.empty (C : List Chg) (m b : Nat) : Scan C m b [] [] [] fun _ => 0 :=
  ⟨rfl, rfl, (fun _ h => nomatch h), (fun _ _ _ h => absurd h (Nat.not_lt_zero _)), List.Pairwise.nil, (fun _ h => nomatch h), (fun _ h => nomatch h), fun _ h => absurd h (Nat.not_lt_zero _)⟩
theorem Scan.grow {C D : List Chg} {m b : Nat} {rds : List (List Int)} {rd : List Int} {kss : List (Nat → Nat)} {kr : Nat → Nat} (s : Scan C m b rds rd kss kr) : Scan (C ++ D) m b rds rd kss kr := by
  have hl : C.length ≤ (C ++ D).length := by rw [List.length_append]; omega
  refine ⟨?_, ?_, s.mono, s.monor, s.pw, s.pwr, fun ks h j hj => ⟨(s.lo ks h j hj).1, Nat.le_trans (s.lo ks h j hj).2 hl⟩, fun j hj => ⟨(s.lor j hj).1, Nat.le_trans (s.lor j hj).2 hl⟩⟩
  · rw [s.erds]
    exact List.map_congr_left fun ks h => (look1_app fun j hj => (s.lo ks h j hj).2).symm
  · rw [look1_app fun j hj => (s.lor j hj).2]
    exact s.erd
theorem look1_len {C : List Chg} {m : Nat} {ks : Nat → Nat} : (look1 C m ks).length = m := by unfold look1; rw [List.length_map, List.length_range]
theorem look1_get {C : List Chg} {m : Nat} {ks : Nat → Nat} {j : Nat} (hj : j < m) : (look1 C m ks).getD j 0 = raw C (ks j) j := by
  unfold look1
  rw [List.getD_eq_getElem?_getD, List.getElem?_map, List.getElem?_range hj]
  rfl
/-- one more box is taken -/
theorem Scan.take {C : List Chg} {m b : Nat} {rds : List (List Int)} {rd : List Int} {kss : List (Nat → Nat)} {kr : Nat → Nat} (s : Scan C m b rds rd kss kr) (hb : b ≤ C.length) :
    ∃ kr', kr' rd.length = C.length ∧ (∀ j, j < rd.length → kr' j = kr j) ∧
      (rd.length + 1 < m → Scan C m b rds (rd ++ [Sd.raw C C.length rd.length]) kss kr') ∧ (rd.length + 1 = m → Scan C m b (rds ++ [rd ++ [Sd.raw C C.length rd.length]]) [] (kss ++ [kr']) fun _ => 0) := by
  refine ⟨fun j => if j = rd.length then C.length else kr j, if_pos rfl, fun j hj => if_neg (by omega), fun h => ?_, fun h => ?_⟩
  all_goals
    have e : rd ++ [Sd.raw C C.length rd.length] = look1 C (rd.length + 1) (fun j => if j = rd.length then C.length else kr j) := by
      unfold look1
      rw [List.range_succ, List.map_append]
      congr 1
      · refine Eq.trans s.erd ?_
        unfold look1
        exact List.map_congr_left fun j hj => by
          have := List.mem_range.mp hj
          show _ = Sd.raw C (if j = rd.length then C.length else kr j) j
          rw [if_neg (by omega)]
      · show [_] = [Sd.raw C (if rd.length = rd.length then C.length else kr rd.length) rd.length]
        rw [if_pos rfl]
    have el : (rd ++ [Sd.raw C C.length rd.length]).length = rd.length + 1 := by rw [List.length_append]; rfl
    have mono' : ∀ j j', j ≤ j' → j' < rd.length + 1 → (if j = rd.length then C.length else kr j) ≤ (if j' = rd.length then C.length else kr j') := fun j j' h1 h2 => by
      by_cases q : j' = rd.length
      · rw [if_pos q]
        by_cases q2 : j = rd.length
        · rw [if_pos q2]; exact Nat.le_refl _
        · rw [if_neg q2]; exact (s.lor j (by omega)).2
      · rw [if_neg q, if_neg (by omega)]
        exact s.monor j j' h1 (by omega)
    have lo' : ∀ j, j < rd.length + 1 → b ≤ (if j = rd.length then C.length else kr j) ∧ (if j = rd.length then C.length else kr j) ≤ C.length := fun j hj => by
      by_cases q : j = rd.length
      · rw [if_pos q]; exact ⟨hb, Nat.le_refl _⟩
      · rw [if_neg q]; exact s.lor j (by omega)
    have pw' : ∀ a ∈ kss, ∀ j j', j < m → j' < rd.length + 1 → a j ≤ (if j' = rd.length then C.length else kr j') := fun a ha j j' h1 h2 => by
      by_cases q : j' = rd.length
      · rw [if_pos q]; exact (s.lo a ha j h1).2
      · rw [if_neg q]; exact s.pwr a ha j j' h1 (by omega)
  · exact ⟨s.erds, by rw [el]; exact e, s.mono, by rw [el]; exact mono', s.pw, by rw [el]; exact pw', s.lo, by rw [el]; exact lo'⟩
  · rw [h] at e mono' lo' pw'
    refine ⟨?_, rfl, ?_, fun _ _ _ z => absurd z (Nat.not_lt_zero _), ?_, fun _ _ _ _ _ z => absurd z (Nat.not_lt_zero _), ?_, fun _ z => absurd z (Nat.not_lt_zero _)⟩
    · rw [List.map_append, ← s.erds, e]
      rfl
    · intro ks hks
      rcases List.mem_append.mp hks with hks | hks
      · exact s.mono ks hks
      · rw [List.mem_singleton.mp hks]
        exact mono'
    · rw [List.pairwise_append]
      refine ⟨s.pw, List.pairwise_singleton _ _, fun a ha b hb => ?_⟩
      rw [List.mem_singleton.mp hb]
      exact pw' a ha
    · intro ks hks
      rcases List.mem_append.mp hks with hks | hks
      · exact s.lo ks hks
      · rw [List.mem_singleton.mp hks]
        exact lo'
end Sd

/-! what scans tell -/
namespace Sd
theorem last_snoc (l : List (List Int)) (r : List Int) : last (l ++ [r]) = r := by
  unfold last
  rw [List.getLastD_eq_getLast?, List.getLast?_append]
  rfl
/-- two readings at least: the last two -/
theorem two_last {A : Type} {l : List A} (h : 2 ≤ l.length) : ∃ l' a b, l = l' ++ [a, b] := by
  obtain ⟨l1, b, rfl⟩ : ∃ l1 b, l = l1 ++ [b] := by
    have h1 : l ≠ [] := fun e => by rw [e] at h; exact absurd h (by show ¬ 2 ≤ 0; decide)
    exact ⟨_, _, (List.dropLast_concat_getLast h1).symm⟩
  obtain ⟨l2, a, rfl⟩ : ∃ l2 a, l1 = l2 ++ [a] := by
    have h1 : l1 ≠ [] := fun e => by rw [e] at h; exact absurd h (by show ¬ 2 ≤ 1; decide)
    exact ⟨_, _, (List.dropLast_concat_getLast h1).symm⟩
  exact ⟨l2, a, b, by rw [List.append_assoc]; rfl⟩
theorem borrowed_none {first now : List Int} : ∀ {hs : List Nat}, borrowed first now hs = none → ∀ h ∈ hs, (row0 (now.getD h 0)).getD 0 0 - (row0 (first.getD h 0)).getD 0 0 < 2
  | [], _, h, hh => by cases hh
  | a :: hs, e, h, hh => by
    unfold borrowed at e
    split at e
    · cases e
    · rename_i c
      rcases List.mem_cons.mp hh with rfl | hh
      · omega
      · exact borrowed_none e h hh
section
variable {C : List Chg} {m b : Nat} {rds : List (List Int)} {rd : List Int} {kss : List (Nat → Nat)} {kr : Nat → Nat}
/-- how many puts of all hands a reading shows -/
def seen (C : List Chg) (m : Nat) (ks : Nat → Nat) : Int := sumH m fun j => (cnt C (ks j) j : Int)
theorem view_sound {v : List Int} (hc : PicHist m C) (s : Small C) (sc : Scan C m b rds rd kss kr) (m0 : 0 < m) (e : view m rds = some v) : ∃ K : Nat, b ≤ K ∧ K ≤ C.length ∧ v = (K : Int) :: cellsAt m C K := by
  unfold view at e
  by_cases c : rds.length < 2
  · rw [if_pos c] at e; cases e
  rw [if_neg c] at e
  have hl : 2 ≤ kss.length := by
    have := sc.erds ▸ c
    rw [List.length_map] at this
    omega
  obtain ⟨kss', a, bb, ek⟩ := two_last hl
  have ea : a ∈ kss := by rw [ek]; simp
  have eb : bb ∈ kss := by rw [ek]; simp
  have el : last rds = look1 C m bb := by
    rw [sc.erds, ek, List.map_append]
    show last (List.map (look1 C m) kss' ++ ([look1 C m a] ++ [look1 C m bb])) = _
    rw [← List.append_assoc, last_snoc]
  have ed : last rds.dropLast = look1 C m a := by
    rw [sc.erds, ek, List.map_append]
    show last (List.map (look1 C m) kss' ++ ([look1 C m a] ++ [look1 C m bb])).dropLast = _
    rw [← List.append_assoc, List.dropLast_concat, last_snoc]
  have hpw : ∀ j j', j < m → j' < m → a j ≤ bb j' := by
    have := sc.pw
    rw [ek, List.pairwise_append] at this
    exact (List.pairwise_cons.mp this.2.1).1 bb (by simp)
  rw [el, ed] at e
  by_cases q : look1 C m bb = look1 C m a
  · rw [if_pos q] at e
    cases e
    have hk : bb 0 ≤ C.length := (sc.lo bb eb 0 m0).2
    refine ⟨bb 0, (sc.lo bb eb 0 m0).1, hk, ?_⟩
    have hcnt : ∀ j, j < m → cnt C (bb 0) j = cnt C (bb j) j ∧ own C (bb 0) j = own C (bb j) j := fun j hj => by
      have er : raw C (bb j) j = raw C (a j) j := by
        have := congrArg (fun l => List.getD l j 0) q
        rw [look1_get hj, look1_get hj] at this
        exact this
      have h1 := (picRow0 hc s hj (sc.lo bb eb j hj).2).1
      have h2 := (picRow0 hc s hj (sc.lo a ea j hj).2).1
      rw [er, h2] at h1
      have h3 := cnt_mono (C := C) j (hpw j 0 hj m0)
      have h4 := cnt_mono (C := C) j (sc.mono bb eb 0 j (Nat.zero_le _) hj)
      have h5 : cnt C (bb 0) j = cnt C (bb j) j := by omega
      exact ⟨h5, own_eq (sc.mono bb eb 0 j (Nat.zero_le _) hj) h5⟩
    unfold look1
    rw [List.map_map, List.map_map]
    congr 1
    · rw [← sum_cnt hc.hands (bb 0) hk]
      unfold sumH
      rw [List.map_congr_left fun j hj => ?_]
      have hj := List.mem_range.mp hj
      show (row0 (raw C (bb j) j)).getD 0 0 = _
      rw [(picRow0 hc s hj (sc.lo bb eb j hj).2).1, (hcnt j hj).1]
    · rw [list_eq_range (cellsAt_len m C (bb 0))]
      refine List.map_congr_left fun j hj => ?_
      have hj := List.mem_range.mp hj
      show (row0 (raw C (bb j) j)).getD 1 0 = _
      rw [(picRow0 hc s hj (sc.lo bb eb j hj).2).2.1, cell_own hj _ (sc.lo bb eb j hj).2, cell_own hj _ hk, (hcnt j hj).2]
  · rw [if_neg q] at e
    obtain ⟨h, hh, h1, rfl⟩ := borrowed_some e
    have hm := List.mem_range.mp hh
    obtain ⟨k0, tl, e0⟩ : ∃ k0 tl, kss = k0 :: tl := by
      cases kss with
      | nil => exact absurd hl (by show ¬ 2 ≤ 0; decide)
      | cons k0 tl => exact ⟨k0, tl, rfl⟩
    have m0' : k0 ∈ kss := by rw [e0]; exact List.mem_cons_self
    have eh : rds.headD [] = look1 C m k0 := by rw [sc.erds, e0]; rfl
    rw [eh, look1_get hm, look1_get hm] at h1
    rw [look1_get hm]
    obtain ⟨p1, _, p3⟩ := picRow0 hc s hm (sc.lo bb eb h hm).2
    obtain ⟨p1', _, _⟩ := picRow0 hc s hm (sc.lo k0 m0' h hm).2
    rw [p1, p1'] at h1
    obtain ⟨K, g1, g2, g3⟩ := p3 (by omega)
    refine ⟨K, ?_, Nat.le_trans g1 (sc.lo bb eb h hm).2, g3⟩
    have hb := (sc.lo k0 m0' h hm).1
    by_cases z : K < k0 h
    · have := cnt_mono (C := C) h (Nat.le_of_lt z)
      omega
    · omega
/-- no view yet: few readings -/
theorem view_none (hc : PicHist m C) (s : Small C) (sc : Scan C m b rds rd kss kr) {i p0 : Nat} (hi : i < m) (hown : ∀ ks ∈ kss, cnt C (ks i) i = p0) (hn : ∀ n, n ≤ rds.length → view m (rds.take n) = none) : rds.length ≤ m := by
  have hkl : rds.length = kss.length := by rw [sc.erds, List.length_map]
  by_cases c : rds.length < 2
  · omega
  obtain ⟨k0, tl, e0⟩ : ∃ k0 tl, kss = k0 :: tl := by
    cases kss with
    | nil => rw [hkl] at c; exact absurd (show (0 : Nat) < 2 by decide) c
    | cons k0 tl => exact ⟨k0, tl, rfl⟩
  have m0' : k0 ∈ kss := by rw [e0]; exact List.mem_cons_self
  have key : ∀ n, n < kss.length → ∀ ks, kss[n]? = some ks → seen C m k0 + n ≤ seen C m ks := by
    intro n
    induction n with
    | zero =>
      intro _ ks e
      rw [e0] at e
      cases e
      omega
    | succ n ih =>
      intro hl ks e
      obtain ⟨hl2, ek⟩ := List.getElem?_eq_some_iff.mp e
      have e1 : kss[n]? = some kss[n] := List.getElem?_eq_getElem (by omega)
      have h1 := ih (by omega) _ e1
      generalize hka : kss[n] = ka at e1 h1
      have mka : ka ∈ kss := List.mem_of_getElem? e1
      have mks : ks ∈ kss := List.mem_of_getElem? e
      have hv := hn (n + 2) (by omega)
      have et : rds.take (n + 2) = (kss.take n).map (look1 C m) ++ [look1 C m ka] ++ [look1 C m ks] := by
        rw [sc.erds, ← List.map_take, List.take_succ_eq_append_getElem (by omega : n + 1 < kss.length), List.take_succ_eq_append_getElem (by omega : n < kss.length), ek, hka, List.map_append, List.map_append]
        rfl
      rw [et] at hv
      unfold view at hv
      rw [if_neg (by simp only [List.length_append, List.length_cons, List.length_nil]; omega), last_snoc, List.dropLast_concat, last_snoc] at hv
      have hne : look1 C m ks ≠ look1 C m ka := fun z => by rw [if_pos z] at hv; cases hv
      have hle : ∀ j, j < m → ka j ≤ ks j := fun j hj => by
        have := List.pairwise_iff_getElem.mp sc.pw n (n + 1) (by omega) hl2 (Nat.lt_succ_self _)
        rw [hka, ek] at this
        exact this j j hj hj
      have : seen C m ka < seen C m ks := by
        refine sumH_lt (fun j hj => by have := cnt_mono (C := C) j (hle j hj); omega) ?_
        apply Classical.byContradiction
        intro hno
        refine hne (List.map_congr_left fun j hj => ?_)
        have hj := List.mem_range.mp hj
        have h1 := cnt_mono (C := C) j (hle j hj)
        have h2 : ¬ ((cnt C (ka j) j : Nat) : Int) < (cnt C (ks j) j : Nat) := fun z => hno ⟨j, hj, z⟩
        have h3 : cnt C (ka j) j = cnt C (ks j) j := by omega
        unfold raw
        rw [own_eq (hle j hj) h3]
      omega
  obtain ⟨kss', a, bb, ek⟩ := two_last (l := kss) (by omega)
  have eb : bb ∈ kss := by rw [ek]; simp
  have hlast := key (kss.length - 1) (by omega) bb (by rw [ek]; simp)
  have hv := hn rds.length (Nat.le_refl _)
  rw [List.take_length] at hv
  unfold view at hv
  rw [if_neg c] at hv
  have el : last rds = look1 C m bb := by
    rw [sc.erds, ek, List.map_append]
    show last (List.map (look1 C m) kss' ++ ([look1 C m a] ++ [look1 C m bb])) = _
    rw [← List.append_assoc, last_snoc]
  have eh : rds.headD [] = look1 C m k0 := by rw [sc.erds, e0]; rfl
  split at hv
  · cases hv
  rw [el, eh] at hv
  have hd := borrowed_none hv
  have hup : seen C m bb + 1 ≤ seen C m k0 + m := by
    have h1 : sumH m (fun j => (cnt C (k0 j) j : Int) + 1) = seen C m k0 + m := by
      have : ∀ n : Nat, sumH n (fun j => (cnt C (k0 j) j : Int) + 1) = sumH n (fun j => (cnt C (k0 j) j : Int)) + n := by
        intro n
        induction n with
        | zero => rfl
        | succ n ih => rw [sumH_succ, sumH_succ, ih]; omega
      exact this m
    rw [← h1]
    refine sumH_lt (fun j hj => ?_) ⟨i, hi, ?_⟩
    · have := hd j (List.mem_range.mpr hj)
      rw [look1_get hj, look1_get hj, (picRow0 hc s hj (sc.lo bb eb j hj).2).1, (picRow0 hc s hj (sc.lo k0 m0' j hj).2).1] at this
      omega
    · rw [hown bb eb, hown k0 m0']
      omega
  omega
end
/-! the counter -/
inductive OneHist (m : Nat) : List Chg → Prop
  | nil : OneHist m []
  | snoc {C : List Chg} {c : Chg} : OneHist m C → c.r.hand < m → c.num = (cnt C C.length c.r.hand : Nat) + 1 → OneHist m (C ++ [c])
theorem OneHist.hands {m : Nat} {C : List Chg} (h : OneHist m C) : ∀ c ∈ C, c.r.hand < m := by
  induction h with
  | nil => intro c hc; cases hc
  | snoc h k _ ih =>
    intro c hc
    rcases List.mem_append.mp hc with hc | hc
    · exact ih c hc
    · rw [List.mem_singleton.mp hc]
      exact k
theorem oneRaw {m : Nat} {C : List Chg} (hc : OneHist m C) : ∀ k, k ≤ C.length → ∀ h, raw C k h = cnt C k h := by
  induction hc with
  | nil =>
    intro k hk h
    have e : k = 0 := Nat.le_zero.mp hk
    subst e
    rfl
  | snoc hC hm hn ih =>
    rename_i C c
    intro k hk h
    by_cases q : k ≤ C.length
    · rw [raw_app q, cnt_app q]
      exact ih k q h
    · have e : k = C.length + 1 := by
        rw [List.length_append] at hk
        simp only [List.length_cons, List.length_nil] at hk
        omega
      subst e
      by_cases s : c.r.hand = h
      · subst s
        have ho := own_snoc (C := C) (c := c) c.r.hand
        rw [if_pos rfl] at ho
        unfold raw cnt
        rw [ho, List.getLast?_append, List.length_append]
        show c.num = _
        rw [hn]
        unfold cnt
        simp
      · have ho := own_snoc (C := C) (c := c) h
        rw [if_neg s] at ho
        have := ih C.length (Nat.le_refl _) h
        unfold raw cnt at this ⊢
        rw [ho]
        exact this
theorem count_sound {C : List Chg} {m b : Nat} {rds : List (List Int)} {rd : List Int} {kss : List (Nat → Nat)} {kr : Nat → Nat} (hc : OneHist m C) (sc : Scan C m b rds rd kss kr) (m0 : 0 < m) (hne : rds ≠ []) :
    ∃ K : Nat, b ≤ K ∧ K ≤ C.length ∧ (last rds).sum = K := by
  obtain ⟨kss', ks, ek⟩ : ∃ l1 b, kss = l1 ++ [b] := by
    have h1 : kss ≠ [] := fun e => hne (by rw [sc.erds, e]; rfl)
    exact ⟨_, _, (List.dropLast_concat_getLast h1).symm⟩
  have ekm : ks ∈ kss := by rw [ek]; simp
  have el : last rds = look1 C m ks := by
    rw [sc.erds, ek, List.map_append]
    exact last_snoc _ _
  have es : (last rds).sum = seen C m ks := by
    rw [el]
    unfold look1 seen sumH
    rw [List.map_congr_left fun j hj => oneRaw hc _ (sc.lo ks ekm j (List.mem_range.mp hj)).2 j]
  have hb : b ≤ C.length := Nat.le_trans (sc.lo ks ekm 0 m0).1 (sc.lo ks ekm 0 m0).2
  have h1 : (b : Int) ≤ seen C m ks := by
    rw [← sum_cnt hc.hands b hb]
    exact sumH_le fun j hj => by have := cnt_mono (C := C) j (sc.lo ks ekm j hj).1; omega
  have h2 : seen C m ks ≤ C.length := by
    rw [← sum_cnt hc.hands C.length (Nat.le_refl _)]
    exact sumH_le fun j hj => by have := cnt_mono (C := C) j (sc.lo ks ekm j hj).2; omega
  obtain ⟨K, hK⟩ := Int.eq_ofNat_of_zero_le (show 0 ≤ seen C m ks by omega)
  exact ⟨K, by omega, by omega, by rw [es, hK]⟩
end Sd

/-! the line -/
namespace Sd
theorem getD_some {A : Type} {l : List A} {i : Nat} {x y : A} (h : l[i]? = some x) : l.getD i y = x := by rw [List.getD_eq_getElem?_getD, h]; rfl
def giftOf : Deed → Int
  | .give n => n
  | _ => 0
def rowL (C : List Chg) (k h : Nat) : List Int := (own C k h).flatMap fun c => [giftOf c.r.deed, c.st]
theorem own_at {C : List Chg} {q k : Nat} {d : Chg} (e : C[q]? = some d) (hq : q < k) : (own C k d.r.hand)[cnt C q d.r.hand]? = some d := by
  have h1 : own C (q + 1) d.r.hand = own C q d.r.hand ++ [d] := by rw [own_succ e, if_pos rfl]
  have h2 := own_prefix (C := C) d.r.hand (show q + 1 ≤ k from hq)
  obtain ⟨t, ht⟩ := h2
  unfold cnt
  rw [← ht, h1, List.append_assoc, List.getElem?_append_right (Nat.le_refl _), Nat.sub_self]
  rfl
theorem own_get {C : List Chg} {h : Nat} {d : Chg} : ∀ {k x : Nat}, k ≤ C.length → (own C k h)[x]? = some d → ∃ q, q < k ∧ C[q]? = some d ∧ d.r.hand = h ∧ cnt C q h = x
  | 0, x, _, e => by rw [own_zero] at e; cases e
  | k + 1, x, hk, e => by
    have hk' : k < C.length := hk
    have ec : C[k]? = some C[k] := List.getElem?_eq_getElem hk'
    rw [own_succ ec] at e
    split at e
    · rename_i s
      by_cases hx : x < (own C k h).length
      · rw [List.getElem?_append_left hx] at e
        obtain ⟨q, h1, h2⟩ := own_get (by omega) e
        exact ⟨q, by omega, h2⟩
      · rw [List.getElem?_append_right (by omega)] at e
        have hz : x - (own C k h).length = 0 := by
          have := (List.getElem?_eq_some_iff.mp e).1
          simp only [List.length_cons, List.length_nil] at this
          omega
        rw [hz] at e
        cases e
        exact ⟨k, Nat.lt_succ_self _, ec, s, by unfold cnt; omega⟩
    · obtain ⟨q, h1, h2⟩ := own_get (by omega) e
      exact ⟨q, by omega, h2⟩
theorem cnt_lt {C : List Chg} {q k : Nat} {d : Chg} (e : C[q]? = some d) (hq : q < k) : cnt C q d.r.hand < cnt C k d.r.hand := (List.getElem?_eq_some_iff.mp (own_at e hq)).1
theorem flat_at {l : List Chg} : ∀ {x : Nat} {c : Chg}, l[x]? = some c → (l.flatMap fun c => [giftOf c.r.deed, c.st])[2 * x]? = some (giftOf c.r.deed) ∧ (l.flatMap fun c => [giftOf c.r.deed, c.st])[2 * x + 1]? = some c.st := by
  induction l with
  | nil => intro x c e; cases e
  | cons a l ih =>
    intro x c e
    cases x with
    | zero => cases e; exact ⟨rfl, rfl⟩
    | succ x =>
      obtain ⟨h1, h2⟩ := ih (x := x) (c := c) e
      exact ⟨h1, h2⟩
theorem flat_len (l : List Chg) : (l.flatMap fun c => [giftOf c.r.deed, c.st]).length = 2 * l.length := by
  induction l with
  | nil => rfl
  | cons a l ih => rw [List.flatMap_cons, List.length_append, ih]; show 2 + _ = 2 * (l.length + 1); omega
theorem rowL_len (C : List Chg) (k h : Nat) : (rowL C k h).length = 2 * cnt C k h := flat_len _
inductive LineHist (m : Nat) : List Chg → Prop
  | nil : LineHist m []
  | snoc {C : List Chg} {c : Chg} : LineHist m C → c.r.hand < m → c.num = enc (rowL C C.length c.r.hand ++ [giftOf c.r.deed, c.st]) → 1 ≤ c.st → c.st ≤ (C.length : Nat) + 1 →
      (∀ (q : Nat) (d : Chg), C[q]? = some d → d.r.fin < c.r.beg → d.st < c.st) → LineHist m (C ++ [c])
theorem LineHist.hands {m : Nat} {C : List Chg} (h : LineHist m C) : ∀ c ∈ C, c.r.hand < m := by
  induction h with
  | nil => intro c hc; cases hc
  | snoc h k _ _ _ _ ih =>
    intro c hc
    rcases List.mem_append.mp hc with hc | hc
    · exact ih c hc
    · rw [List.mem_singleton.mp hc]
      exact k
theorem LineHist.stamps {m : Nat} {C : List Chg} (h : LineHist m C) : ∀ c ∈ C, 1 ≤ c.st ∧ c.st ≤ C.length := by
  induction h with
  | nil => intro c hc; cases hc
  | snoc h _ _ h1 h2 _ ih =>
    intro c hc
    rw [List.length_append]
    rcases List.mem_append.mp hc with hc | hc
    · have := ih c hc
      exact ⟨this.1, by have := this.2; simp only [List.length_cons, List.length_nil]; omega⟩
    · rw [List.mem_singleton.mp hc]
      exact ⟨h1, by simp only [List.length_cons, List.length_nil]; omega⟩
/-- the changes stand by their ends; each begins ahead of its end, a hand's ones one behind the other -/
structure Timed (C : List Chg) : Prop where
  ends : ∀ (p q : Nat) (a b : Chg), C[p]? = some a → C[q]? = some b → p < q → a.r.fin < b.r.fin
  beg : ∀ c ∈ C, c.r.beg ≤ c.r.fin
  own : ∀ (p q : Nat) (a b : Chg), C[p]? = some a → C[q]? = some b → p < q → a.r.hand = b.r.hand → a.r.fin < b.r.beg
theorem Timed.lt {C : List Chg} (t : Timed C) {p q : Nat} {a b : Chg} (ha : C[p]? = some a) (hb : C[q]? = some b) (h : a.r.fin < b.r.fin) : p < q := by
  rcases Nat.lt_trichotomy p q with c | c | c
  · exact c
  · subst c
    rw [ha] at hb
    cases hb
    exact absurd h (Nat.lt_irrefl _)
  · exact absurd (t.ends q p b a hb ha c) (by omega)
theorem LineHist.later {m : Nat} {C : List Chg} (h : LineHist m C) : ∀ (p q : Nat) (a b : Chg), C[p]? = some a → C[q]? = some b → p < q → a.r.fin < b.r.beg → a.st < b.st := by
  induction h with
  | nil => intro p q a b ha; cases ha
  | snoc h _ _ _ _ h3 ih =>
    intro p q a b ha hb hpq hf
    rcases at_snoc hb with ⟨hq, hb⟩ | ⟨rfl, rfl⟩
    · rcases at_snoc ha with ⟨_, ha⟩ | ⟨rfl, _⟩
      · exact ih p q a b ha hb hpq hf
      · omega
    · rcases at_snoc ha with ⟨_, ha⟩ | ⟨rfl, _⟩
      · exact h3 p a ha hf
      · omega
theorem own_stamps {m : Nat} {C : List Chg} (h : LineHist m C) (t : Timed C) {p q : Nat} {a b : Chg} (ha : C[p]? = some a) (hb : C[q]? = some b) (hs : a.r.hand = b.r.hand) (hc : cnt C p a.r.hand ≤ cnt C q b.r.hand) : a.st ≤ b.st := by
  rcases Nat.lt_trichotomy p q with c | c | c
  · exact Int.le_of_lt (h.later p q a b ha hb c (t.own p q a b ha hb c hs))
  · subst c
    rw [ha] at hb
    cases hb
    exact Int.le_refl _
  · have := cnt_lt hb c
    rw [← hs] at this hc
    omega
theorem lineRaw {m : Nat} {C : List Chg} (hc : LineHist m C) : ∀ k, k ≤ C.length → ∀ h, (cnt C k h = 0 ∧ raw C k h = 0) ∨ (0 < cnt C k h ∧ raw C k h = enc (rowL C k h)) := by
  induction hc with
  | nil =>
    intro k hk h
    have e : k = 0 := Nat.le_zero.mp hk
    subst e
    exact .inl ⟨rfl, rfl⟩
  | snoc hC hm hn h5 h6 h7 ih =>
    rename_i C c
    intro k hk h
    have rapp : ∀ {k}, k ≤ C.length → rowL (C ++ [c]) k h = rowL C k h := fun q => by unfold rowL; rw [own_app q]
    by_cases q : k ≤ C.length
    · rw [raw_app q, cnt_app q, rapp q]
      exact ih k q h
    · have e : k = C.length + 1 := by
        rw [List.length_append] at hk
        simp only [List.length_cons, List.length_nil] at hk
        omega
      subst e
      by_cases s : c.r.hand = h
      · subst s
        have ho := own_snoc (C := C) (c := c) c.r.hand
        rw [if_pos rfl] at ho
        refine .inr ⟨by unfold cnt; rw [ho, List.length_append]; exact Nat.succ_pos _, ?_⟩
        unfold raw rowL
        rw [ho, List.getLast?_append, List.flatMap_append]
        exact hn
      · have ho := own_snoc (C := C) (c := c) h
        rw [if_neg s] at ho
        have := ih C.length (Nat.le_refl _) h
        unfold raw cnt rowL at this ⊢
        rw [ho]
        exact this
theorem rowL_In5 {m : Nat} {C : List Chg} (hc : LineHist m C) (s : Small C) (k h : Nat) : In5 (rowL C k h) := fun x hx => by
  obtain ⟨c, hm, hx⟩ := List.mem_flatMap.mp hx
  have hcm := (mem_own hm).1
  have hst := hc.stamps c hcm
  have hl := s.len
  have hok := s.ok c hcm
  simp only [List.mem_cons, List.not_mem_nil, or_false] at hx
  rcases hx with rfl | rfl
  · cases hd : c.r.deed with
    | give n => rw [hd] at hok; show 0 ≤ n ∧ n < _; have h1 := hok.1; have h2 := hok.2; omega
    | _ => show (0 : Int) ≤ 0 ∧ (0 : Int) < 900000; decide
  · omega
theorem lineDec {m : Nat} {C : List Chg} (hc : LineHist m C) (s : Small C) {k : Nat} (hk : k ≤ C.length) (h : Nat) : dec (raw C k h) = rowL C k h := by
  rcases lineRaw hc k hk h with ⟨h1, h2⟩ | ⟨h1, h2⟩
  · rw [h2]
    unfold rowL
    rw [List.length_eq_zero_iff.mp h1]
    exact dec_small (by decide)
  · rw [h2]
    exact dec_enc (rowL_In5 hc s k h).six
theorem lineBox {m : Nat} {C : List Chg} (hc : LineHist m C) (s : Small C) {k : Nat} (hk : k ≤ C.length) (h : Nat) : LineOk (raw C k h) := by
  have hl := s.len
  have hcl := cnt_le C k h
  refine ⟨rowL C k h, ?_, rowL_In5 hc s k h, by rw [rowL_len]; omega, by rw [rowL_len]; omega⟩
  rcases lineRaw hc k hk h with ⟨h1, h2⟩ | ⟨h1, h2⟩
  · rw [h2]
    unfold rowL
    rw [List.length_eq_zero_iff.mp h1]
    exact Row.zero
  · rw [h2]
    exact Row.of (rowL_In5 hc s k h).six
def rowsL (C : List Chg) (m : Nat) (ks : Nat → Nat) : List (List Int) := (List.range m).map fun j => rowL C (ks j) j
theorem rowsL_get {C : List Chg} {m : Nat} {ks : Nat → Nat} {j : Nat} (hj : j < m) : (rowsL C m ks).getD j [] = rowL C (ks j) j := by
  unfold rowsL
  rw [List.getD_eq_getElem?_getD, List.getElem?_map, List.getElem?_range hj]
  rfl
theorem look_rows {m : Nat} {C : List Chg} (hc : LineHist m C) (s : Small C) {ks : Nat → Nat} (h : ∀ j, j < m → ks j ≤ C.length) : (look1 C m ks).map dec = rowsL C m ks := by
  unfold look1 rowsL
  rw [List.map_map]
  exact List.map_congr_left fun j hj => lineDec hc s (h j (List.mem_range.mp hj)) j
/-- a stamp is greater than those of gifts put ahead -/
theorem stamp_gt {m b : Nat} {C : List Chg} (hc : LineHist m C) (t : Timed C) {ks : Nat → Nat} (hk : ∀ j, j < m → b ≤ ks j ∧ ks j ≤ C.length) :
    1 ≤ stamp (rowsL C m ks) ∧ stamp (rowsL C m ks) ≤ (C.length : Nat) + 1 ∧ ∀ (q : Nat) (d : Chg), q < b → C[q]? = some d → d.st < stamp (rowsL C m ks) := by
  unfold stamp
  have nn := top0_nn ((List.filter (fun r => decide (r ≠ [])) (rowsL C m ks)).map fun r => r.getLastD 0)
  refine ⟨by omega, ?_, fun q d hq e => ?_⟩
  · have : top0 ((List.filter (fun r => decide (r ≠ [])) (rowsL C m ks)).map fun r => r.getLastD 0) ≤ (C.length : Nat) := by
      refine top0_le (by omega) fun x hx => ?_
      obtain ⟨r, hr, rfl⟩ := List.mem_map.mp hx
      obtain ⟨hr, hne⟩ := List.mem_filter.mp hr
      obtain ⟨j, hj, rfl⟩ := List.mem_map.mp hr
      have hne : rowL C (ks j) j ≠ [] := by simpa using hne
      have ho : own C (ks j) j ≠ [] := fun z => hne (by unfold rowL; rw [z]; rfl)
      obtain ⟨l', c, el⟩ : ∃ l' c, own C (ks j) j = l' ++ [c] := ⟨_, _, (List.dropLast_concat_getLast ho).symm⟩
      have hm : c ∈ own C (ks j) j := by rw [el]; simp
      have := hc.stamps c (mem_own hm).1
      unfold rowL
      rw [el, List.flatMap_append, List.getLastD_eq_getLast?, List.getLast?_append]
      show c.st ≤ _
      exact this.2
    omega
  · have hm := hc.hands d (List.mem_of_getElem? e)
    have hq2 : q < ks d.r.hand := Nat.lt_of_lt_of_le hq (hk _ hm).1
    have ha := own_at e hq2
    have ho : own C (ks d.r.hand) d.r.hand ≠ [] := fun z => by rw [z] at ha; cases ha
    obtain ⟨l', c, el⟩ : ∃ l' c, own C (ks d.r.hand) d.r.hand = l' ++ [c] := ⟨_, _, (List.dropLast_concat_getLast ho).symm⟩
    have ec : (own C (ks d.r.hand) d.r.hand)[l'.length]? = some c := by rw [el, List.getElem?_append_right (Nat.le_refl _), Nat.sub_self]; rfl
    obtain ⟨q2, g1, g2, g3, g4⟩ := own_get (hk _ hm).2 ec
    have hle : d.st ≤ c.st := by
      refine own_stamps hc t e g2 g3.symm ?_
      rw [g3, g4]
      have := (List.getElem?_eq_some_iff.mp ha).1
      rw [el, List.length_append] at this
      simp only [List.length_cons, List.length_nil] at this
      omega
    have hin : (rowL C (ks d.r.hand) d.r.hand).getLastD 0 ∈ (List.filter (fun r => decide (r ≠ [])) (rowsL C m ks)).map fun r => r.getLastD 0 := by
      refine List.mem_map.mpr ⟨_, List.mem_filter.mpr ⟨List.mem_map.mpr ⟨_, List.mem_range.mpr hm, rfl⟩, ?_⟩, rfl⟩
      refine decide_eq_true fun z => ?_
      have := rowL_len C (ks d.r.hand) d.r.hand
      rw [z] at this
      simp only [List.length_nil] at this
      have h2 := (List.getElem?_eq_some_iff.mp ha).1
      unfold cnt at this h2
      omega
    have := le_top0 hin
    have e2 : (rowL C (ks d.r.hand) d.r.hand).getLastD 0 = c.st := by
      unfold rowL
      rw [el, List.flatMap_append, List.getLastD_eq_getLast?, List.getLast?_append]
      rfl
    omega
/-- what is left of a reading -/
theorem left_mem {m : Nat} {C : List Chg} {ks : Nat → Nat} (hk : ∀ j, j < m → ks j ≤ C.length) {took : List Nat} {l : Int × Nat × Int} (h : l ∈ left took (rowsL C m ks)) :
    ∃ (q : Nat) (d : Chg), q < ks d.r.hand ∧ C[q]? = some d ∧ d.r.hand < m ∧ cnt C q d.r.hand = took.getD d.r.hand 0 ∧ l = (d.st, d.r.hand, giftOf d.r.deed) := by
  unfold left at h
  obtain ⟨j, hj, e⟩ := List.mem_filterMap.mp h
  have hj : j < m := by
    have := List.mem_range.mp hj
    unfold rowsL at this
    rw [List.length_map, List.length_range] at this
    exact this
  rw [rowsL_get hj] at e
  split at e
  · rename_i c
    rw [rowL_len] at c
    have hx : took.getD j 0 < (own C (ks j) j).length := by unfold cnt at c; omega
    obtain ⟨q, g1, g2, g3, g4⟩ := own_get (hk j hj) (List.getElem?_eq_getElem hx)
    obtain ⟨f1, f2⟩ := flat_at (List.getElem?_eq_getElem hx)
    generalize (own C (ks j) j)[took.getD j 0] = d at g2 g3 f1 f2
    cases e
    subst g3
    refine ⟨q, d, g1, g2, hj, g4, ?_⟩
    unfold rowL
    rw [getD_some f1, getD_some f2]
  · cases e
theorem mem_left {m : Nat} {C : List Chg} {ks : Nat → Nat} {took : List Nat} {q : Nat} {d : Chg} (hm : d.r.hand < m) (e : C[q]? = some d) (hq : q < ks d.r.hand) (hc : cnt C q d.r.hand = took.getD d.r.hand 0) :
    (d.st, d.r.hand, giftOf d.r.deed) ∈ left took (rowsL C m ks) := by
  unfold left
  refine List.mem_filterMap.mpr ⟨d.r.hand, List.mem_range.mpr (by unfold rowsL; rw [List.length_map, List.length_range]; exact hm), ?_⟩
  rw [rowsL_get hm]
  have ha := own_at e hq
  rw [hc] at ha
  obtain ⟨f1, f2⟩ := flat_at ha
  rw [if_pos (by rw [rowL_len]; have := (List.getElem?_eq_some_iff.mp ha).1; unfold cnt; omega)]
  unfold rowL
  rw [getD_some f1, getD_some f2]
section
variable {m b : Nat} {C : List Chg} {rds : List (List Int)} {rd : List Int} {kss : List (Nat → Nat)} {kr : Nat → Nat} {took : List Nat}
/-- a take that told None: all that was put ahead of its beginning was told -/
theorem none_sound (hc : LineHist m C) (hk : ∀ ks ∈ kss, ∀ j, j < m → b ≤ ks j ∧ ks j ≤ C.length) {ks : Nat → Nat} (hks : ks ∈ kss) (e : left took (rowsL C m ks) = []) :
    ∀ (q : Nat) (d : Chg), q < b → C[q]? = some d → cnt C q d.r.hand < took.getD d.r.hand 0 := by
  intro q d hq ed
  apply Classical.byContradiction
  intro hno
  have hm := hc.hands d (List.mem_of_getElem? ed)
  have hq2 : q < ks d.r.hand := Nat.lt_of_lt_of_le hq (hk ks hks _ hm).1
  have ha := (List.getElem?_eq_some_iff.mp (own_at ed hq2)).1
  have hx : took.getD d.r.hand 0 < (own C (ks d.r.hand) d.r.hand).length := by omega
  obtain ⟨q2, g1, g2, g3, g4⟩ := own_get (hk ks hks _ hm).2 (List.getElem?_eq_getElem hx)
  generalize (own C (ks d.r.hand) d.r.hand)[took.getD d.r.hand 0] = d2 at g2 g3
  have := mem_left (m := m) (C := C) (ks := ks) (took := took) (q := q2) (d := d2) (by rw [g3]; exact hm) g2 (by rw [g3]; exact g1) (by rw [g3]; exact g4)
  rw [e] at this
  cases this
theorem take_sound (hc : LineHist m C) (t : Timed C) {k1 k2 : Nat → Nat} (h1 : ∀ j, j < m → k1 j ≤ C.length) (h2 : ∀ j, j < m → k2 j ≤ C.length) (h12 : ∀ j j', j < m → j' < m → k1 j ≤ k2 j')
    (hne : left took (rowsL C m k1) ≠ []) {l : Int × Nat × Int} (e : least (left took (rowsL C m k2)) = some l) :
    ∃ (q : Nat) (d : Chg), C[q]? = some d ∧ cnt C q d.r.hand = took.getD d.r.hand 0 ∧ l = (d.st, d.r.hand, giftOf d.r.deed) ∧ ∀ (q' : Nat) (d' : Chg), C[q']? = some d' → d'.r.fin < d.r.beg → cnt C q' d'.r.hand < took.getD d'.r.hand 0 := by
  have hl : left took (rowsL C m k2) ≠ [] := fun z => by rw [z] at e; cases e
  obtain ⟨y, hy, hym, hyl⟩ := least_some (left_sorted took (rowsL C m k2)) hl
  rw [e] at hy
  cases hy
  obtain ⟨q, d, g1, g2, g3, g4, g5⟩ := left_mem h2 hym
  refine ⟨q, d, g2, g4, g5, fun q' d' e' hf => ?_⟩
  apply Classical.byContradiction
  intro hno
  have hmin : ∀ (q2 : Nat) (d2 : Chg), d2.r.hand < m → C[q2]? = some d2 → q2 < k2 d2.r.hand → cnt C q2 d2.r.hand = took.getD d2.r.hand 0 → d.st ≤ d2.st := fun q2 d2 a1 a2 a3 a4 => by
    have := hyl _ (mem_left a1 a2 a3 a4)
    rw [g5] at this
    rcases this with h | ⟨h, _⟩
    · exact Int.le_of_lt h
    · exact Int.le_of_eq h
  have hm' := hc.hands d' (List.mem_of_getElem? e')
  have hbf := t.beg d (List.mem_of_getElem? g2)
  by_cases hq' : q' < k2 d'.r.hand
  · have ha := (List.getElem?_eq_some_iff.mp (own_at e' hq')).1
    have hx : took.getD d'.r.hand 0 < (own C (k2 d'.r.hand) d'.r.hand).length := by omega
    obtain ⟨q2, f1, f2, f3, f4⟩ := own_get (h2 _ hm') (List.getElem?_eq_getElem hx)
    generalize (own C (k2 d'.r.hand) d'.r.hand)[took.getD d'.r.hand 0] = d2 at f2 f3
    have a1 := hmin q2 d2 (by rw [f3]; exact hm') f2 (by rw [f3]; exact f1) (by rw [f3]; exact f4)
    have a2 := own_stamps hc t f2 e' f3 (by rw [f3, f4]; omega)
    have a3 := hc.later q' q d' d e' g2 (t.lt e' g2 (by omega)) hf
    omega
  · obtain ⟨l1, hl1⟩ := List.exists_mem_of_ne_nil _ hne
    obtain ⟨qx, x, f1, f2, f3, f4, _⟩ := left_mem h1 hl1
    have hx2 : qx < k2 x.r.hand := Nat.lt_of_lt_of_le f1 (h12 _ _ f3 f3)
    have hxq : qx < q' := by
      have := h12 _ _ f3 hm'
      omega
    have a1 := hmin qx x f3 f2 hx2 f4
    have a2 := t.ends qx q' x d' f2 e' hxq
    have a3 := hc.later qx q x d f2 g2 (t.lt f2 g2 (by omega)) (by omega)
    omega
end
end Sd

/-! a hand underway -/
namespace Sd
structure Busy (m : Nat) (G : Nat → List Chg) (i : Nat) (d : Deed) (h : HandM) (b : Nat) (kss : List (Nat → Nat)) (kr : Nat → Nat) : Prop where
  sc : Scan (G d.thing) m b h.readings h.reading kss kr
  lt : h.reading.length < m
  b1 : ∀ (q : Nat) (c : Chg), (G d.thing)[q]? = some c → q < b → c.r.fin < h.beg
  b2 : ∀ (q : Nat) (c : Chg), (G d.thing)[q]? = some c → b ≤ q → h.beg < c.r.fin
  bl : b ≤ (G d.thing).length
  own : ∀ (q : Nat) (c : Chg), (G d.thing)[q]? = some c → c.r.hand = i → q < b
  out : h.out = outOf m i d h
  nv : ∀ n, n < h.readings.length → outOf m i d { h with readings := h.readings.take n } = none
  rdo : h.out ≠ none → h.reading = []
/-- the things' histories -/
structure Hists (m : Nat) (G : Nat → List Chg) : Prop where
  h0 : OneHist m (G 0)
  hp : ∀ t, 1 ≤ t → t ≤ 3 → PicHist m (G t)
  h4 : LineHist m (G 4)
  tm : ∀ t, Timed (G t)
  sm : ∀ t, Small (G t)
section
variable {m : Nat} {G : Nat → List Chg} {i : Nat} {d : Deed} {h : HandM} {b : Nat} {kss : List (Nat → Nat)} {kr : Nat → Nat}
theorem Hists.hands (H : Hists m G) (d : Deed) : ∀ c ∈ G d.thing, c.r.hand < m := by
  have hl := d.thing_le
  by_cases h0 : d.thing = 0
  · rw [h0]; exact H.h0.hands
  · by_cases h4 : d.thing = 4
    · rw [h4]; exact H.h4.hands
    · exact (H.hp d.thing (by omega) (by omega)).hands
/-- own puts all stand ahead -/
theorem busy_own (B : Busy m G i d h b kss kr) {k : Nat} (h1 : b ≤ k) (h2 : k ≤ (G d.thing).length) : own (G d.thing) k i = own (G d.thing) (G d.thing).length i := by
  refine own_eq h2 ?_
  apply Classical.byContradiction
  intro hne
  have h3 := cnt_mono (C := G d.thing) i h2
  have hx : Sd.cnt (G d.thing) k i < (Sd.own (G d.thing) (G d.thing).length i).length := by unfold Sd.cnt at *; omega
  obtain ⟨q, g1, g2, g3, g4⟩ := own_get (Nat.le_refl _) (List.getElem?_eq_getElem hx)
  have hq := B.own q _ g2 g3
  have := cnt_lt g2 (show q < k by omega)
  rw [g3, g4] at this
  omega
theorem busy_last (B : Busy m G i d h b kss kr) (hne : h.readings ≠ []) : ∃ ks, ks ∈ kss ∧ Sd.last h.readings = look1 (G d.thing) m ks := by
  obtain ⟨kss', ks, ek⟩ : ∃ l1 b, kss = l1 ++ [b] := by
    have h1 : kss ≠ [] := fun e => hne (by rw [B.sc.erds, e]; rfl)
    exact ⟨_, _, (List.dropLast_concat_getLast h1).symm⟩
  refine ⟨ks, by rw [ek]; simp, ?_⟩
  rw [B.sc.erds, ek, List.map_append]
  exact last_snoc _ _
/-- what a deed tells of a moment -/
def tellAns (m : Nat) (d : Deed) (C : List Chg) (K : Nat) : Ans :=
  match d with
  | .count => .int K
  | .look => .view (cellsAt m C K)
  | .sum => .int (cellsAt m C K).sum
  | .top => .int (top0 (cellsAt m C K))
  | _ => .non
theorem outPic {d : Deed} {h : HandM} (h0 : d.thing ≠ 0) (h4 : d.thing ≠ 4) : outOf m i d h = picOut m i d h.readings := by
  unfold outOf
  rw [if_neg h0, if_neg h4]
theorem tells_sound (H : Hists m G) (m0 : 0 < m) (hd : d.tells = true) (B : Busy m G i d h b kss kr) {o : Out} (e : h.out = some o) :
    o.num = none ∧ ∃ K : Nat, b ≤ K ∧ K ≤ (G d.thing).length ∧ o.mark = .mom K ∧ o.ans = tellAns m d (G d.thing) K := by
  rw [B.out] at e
  cases d with
  | count =>
    have e' : cntOut .count h.ones h.readings = some o := e
    unfold cntOut at e'
    dsimp only at e'
    split at e'
    · cases e'
    · rename_i hne
      cases e'
      obtain ⟨K, h1, h2, h3⟩ := count_sound H.h0 B.sc m0 hne
      exact ⟨rfl, K, h1, h2, by rw [h3], by rw [h3]; rfl⟩
  | look =>
    rw [outPic (by decide) (by decide)] at e
    unfold picOut at e
    cases hv : view m h.readings with
    | none => rw [hv] at e; cases e
    | some v =>
      rw [hv] at e
      cases e
      obtain ⟨K, h1, h2, rfl⟩ := view_sound (H.hp 1 (by decide) (by decide)) (H.sm 1) B.sc m0 hv
      exact ⟨rfl, K, h1, h2, rfl, rfl⟩
  | sum =>
    rw [outPic (by decide) (by decide)] at e
    unfold picOut at e
    cases hv : view m h.readings with
    | none => rw [hv] at e; cases e
    | some v =>
      rw [hv] at e
      cases e
      obtain ⟨K, h1, h2, rfl⟩ := view_sound (H.hp 2 (by decide) (by decide)) (H.sm 2) B.sc m0 hv
      exact ⟨rfl, K, h1, h2, rfl, rfl⟩
  | top =>
    rw [outPic (by decide) (by decide)] at e
    unfold picOut at e
    cases hv : view m h.readings with
    | none => rw [hv] at e; cases e
    | some v =>
      rw [hv] at e
      cases e
      obtain ⟨K, h1, h2, rfl⟩ := view_sound (H.hp 3 (by decide) (by decide)) (H.sm 3) B.sc m0 hv
      exact ⟨rfl, K, h1, h2, rfl, rfl⟩
  | _ => cases hd
def isPic : Deed → Bool
  | .set _ | .add _ | .rais _ => true
  | _ => false
theorem pic_put (H : Hists m G) (m0 : 0 < m) (hi : i < m) (hd : isPic d = true) (B : Busy m G i d h b kss kr) {o : Out} (e : h.out = some o) {r : Rec} (er : r.hand = i ∧ r.deed = d) {st : Int} :
    o.ans = .non ∧ ∃ n, o.num = some n ∧ PicAt m (G d.thing) ⟨r, n, st⟩ := by
  rw [B.out] at e
  have hth : 1 ≤ d.thing ∧ d.thing ≤ 3 := by cases d <;> first | exact (show 1 ≤ 1 ∧ 1 ≤ 3 by decide) | exact (show 1 ≤ 2 ∧ 2 ≤ 3 by decide) | exact (show 1 ≤ 3 ∧ 3 ≤ 3 by decide) | cases hd
  rw [outPic (by omega) (by omega)] at e
  unfold picOut at e
  cases hv : view m h.readings with
  | none => rw [hv] at e; cases e
  | some v =>
    rw [hv] at e
    have hH := H.hp d.thing hth.1 hth.2
    obtain ⟨K, h1, h2, ev⟩ := view_sound hH (H.sm d.thing) B.sc m0 hv
    have hne : h.readings ≠ [] := fun z => by rw [z] at hv; cases hv
    obtain ⟨ks, hks, el⟩ := busy_last B hne
    have hk := B.sc.lo ks hks i hi
    obtain ⟨p1, p2, _⟩ := picRow0 hH (H.sm d.thing) hi hk.2
    have o1 := busy_own B hk.1 hk.2
    have o2 := busy_own B h1 h2
    have c1 : Sd.cnt (G d.thing) (ks i) i = Sd.cnt (G d.thing) (G d.thing).length i := congrArg List.length o1
    have c2 : Sd.cnt (G d.thing) K i = Sd.cnt (G d.thing) (G d.thing).length i := congrArg List.length o2
    have c3 : (cellsAt m (G d.thing) (ks i)).getD i 0 = (cellsAt m (G d.thing) (G d.thing).length).getD i 0 := by
      rw [cell_own hi _ hk.2, cell_own hi _ (Nat.le_refl _), o1]
    have en : o.ans = .non ∧ o.num = some (enc (((row0 ((Sd.last h.readings).getD i 0)).getD 0 0 + 1) :: behindCell ((row0 ((Sd.last h.readings).getD i 0)).getD 1 0) d :: v)) := by
      cases d <;> first | (cases e; exact ⟨rfl, rfl⟩) | cases hd
    refine ⟨en.1, _, en.2, ?_⟩
    obtain ⟨e1, e2⟩ := er
    refine ⟨by rw [e1]; exact hi, K, h2, by rw [e1]; exact c2, ?_⟩
    show enc _ = _
    rw [el, look1_get hi, p1, p2, ev, e1, e2, c1, c3]
theorem one_put (hd : d = .one) (B : Busy m G i d h b kss kr) : h.out = some ⟨some (h.ones + 1), .non, .non⟩ := by
  rw [B.out]
  subst hd
  rfl
theorem give_put (H : Hists m G) (m0 : 0 < m) (hi : i < m) {n : Int} (B : Busy m G i (.give n) h b kss kr) {o : Out} (e : h.out = some o) :
    o.ans = .non ∧ o.mark = .gift i (Sd.cnt (G 4) (G 4).length i) ∧ ∃ st, o.num = some (enc (rowL (G 4) (G 4).length i ++ [n, st])) ∧ 1 ≤ st ∧ st ≤ ((G 4).length : Nat) + 1 ∧
      ∀ (q : Nat) (c : Chg), (G 4)[q]? = some c → c.r.fin < h.beg → c.st < st := by
  rw [B.out] at e
  have e' : lineOut i (.give n) h.took h.readings = some o := e
  unfold lineOut at e'
  split at e'
  · cases e'
  · rename_i hne
    obtain ⟨ks, hks, el⟩ := busy_last B hne
    have hk : ∀ j, j < m → b ≤ ks j ∧ ks j ≤ (G 4).length := B.sc.lo ks hks
    rw [el] at e'
    have er : (look1 (G (Deed.give n).thing) m ks).map dec = rowsL (G 4) m ks := look_rows H.h4 (H.sm 4) fun j hj => (hk j hj).2
    rw [er] at e'
    dsimp only at e'
    rw [rowsL_get hi] at e'
    have o1 : own (G 4) (ks i) i = own (G 4) (G 4).length i := busy_own B (hk i hi).1 (hk i hi).2
    have r1 : rowL (G 4) (ks i) i = rowL (G 4) (G 4).length i := by unfold rowL; rw [o1]
    rw [r1] at e'
    cases e'
    obtain ⟨s1, s2, s3⟩ := stamp_gt H.h4 (H.tm 4) hk
    refine ⟨rfl, ?_, _, rfl, s1, s2, fun q c hq hf => s3 q c ?_ hq⟩
    · show Mark.gift i _ = _
      rw [rowL_len]
      congr 1
      omega
    · apply Classical.byContradiction
      intro hno
      have := B.b2 q c hq (by omega)
      omega
theorem take_told (H : Hists m G) (m0 : 0 < m) (B : Busy m G i .take h b kss kr) {o : Out} (e : h.out = some o) :
    o.num = none ∧ ((o.mark = .non ∧ o.ans = .non ∧ ∀ (q : Nat) (c : Chg), (G 4)[q]? = some c → c.r.fin ≤ h.beg → Sd.cnt (G 4) q c.r.hand < h.took.getD c.r.hand 0) ∨
      (∃ (q : Nat) (c : Chg), (G 4)[q]? = some c ∧ Sd.cnt (G 4) q c.r.hand = h.took.getD c.r.hand 0 ∧ o.mark = .gift c.r.hand (Sd.cnt (G 4) q c.r.hand) ∧ o.ans = .int (giftOf c.r.deed) ∧
        ∀ (q' : Nat) (c' : Chg), (G 4)[q']? = some c' → c'.r.fin < c.r.beg → Sd.cnt (G 4) q' c'.r.hand < h.took.getD c'.r.hand 0)) := by
  have e' : lineOut i .take h.took h.readings = some o := by rw [B.out] at e; exact e
  unfold lineOut at e'
  split at e'
  · cases e'
  · rename_i hne
    obtain ⟨ks, hks, el⟩ := busy_last B hne
    have hk : ∀ j, j < m → b ≤ ks j ∧ ks j ≤ (G 4).length := B.sc.lo ks hks
    rw [el] at e'
    have er : (look1 (G Deed.take.thing) m ks).map dec = rowsL (G 4) m ks := look_rows H.h4 (H.sm 4) fun j hj => (hk j hj).2
    rw [er] at e'
    dsimp only at e'
    cases hl : least (left h.took (rowsL (G 4) m ks)) with
    | none =>
      rw [hl] at e'
      cases e'
      refine ⟨rfl, .inl ⟨rfl, rfl, fun q c hq hf => ?_⟩⟩
      refine none_sound H.h4 (fun ks hks j hj => B.sc.lo ks hks j hj) hks ((least_nil_iff _).mp hl) q c ?_ hq
      apply Classical.byContradiction
      intro hno
      have := B.b2 q c hq (by omega)
      omega
    | some l =>
      rw [hl] at e'
      dsimp only at e'
      split at e'
      · cases e'
      · rename_i hlen
        cases e'
        have hkl : h.readings.length = kss.length := by rw [B.sc.erds, List.length_map]
        obtain ⟨k0, tl, e0⟩ : ∃ k0 tl, kss = k0 :: tl := by
          cases kss with
          | nil => exact absurd hks (List.not_mem_nil)
          | cons k0 tl => exact ⟨k0, tl, rfl⟩
        have m0' : k0 ∈ kss := by rw [e0]; exact List.mem_cons_self
        obtain ⟨kss', k2, ek⟩ : ∃ l1 b, tl = l1 ++ [b] := by
          have h1 : tl ≠ [] := fun z => by rw [e0, z] at hkl; simp only [List.length_cons, List.length_nil] at hkl; omega
          exact ⟨_, _, (List.dropLast_concat_getLast h1).symm⟩
        have hk2m : k2 ∈ kss := by rw [e0, ek]; simp
        have e12 : ∀ j j', j < m → j' < m → k0 j ≤ k2 j' := by
          have := B.sc.pw
          rw [e0] at this
          exact (List.pairwise_cons.mp this).1 k2 (by rw [ek]; simp)
        have el2 : Sd.last h.readings = look1 (G 4) m k2 := by
          have : kss = (k0 :: kss') ++ [k2] := by rw [e0, ek]; rfl
          rw [B.sc.erds, this, List.map_append]
          exact last_snoc _ _
        have hrow : rowsL (G 4) m ks = rowsL (G 4) m k2 := by
          have h1 := er
          have h2 : (look1 (G 4) m k2).map dec = rowsL (G 4) m k2 := look_rows H.h4 (H.sm 4) fun j hj => (B.sc.lo k2 hk2m j hj).2
          rw [← h1, ← h2, ← el2, el]
        rw [hrow] at hl
        -- the first reading had one, too
        have hn1 := B.nv 1 (by omega)
        have hn1' : lineOut i .take h.took (h.readings.take 1) = none := hn1
        have er1 : h.readings.take 1 = [look1 (G 4) m k0] := by rw [B.sc.erds, e0]; rfl
        rw [er1] at hn1'
        unfold lineOut at hn1'
        rw [if_neg (by simp)] at hn1'
        dsimp only at hn1'
        have e1l : Sd.last [look1 (G 4) m k0] = look1 (G 4) m k0 := rfl
        rw [e1l, look_rows H.h4 (H.sm 4) fun j hj => (B.sc.lo k0 m0' j hj).2] at hn1'
        have hne1 : left h.took (rowsL (G 4) m k0) ≠ [] := fun z => by
          rw [z] at hn1'
          cases hn1'
        obtain ⟨q, c, g1, g2, g3, g4⟩ := take_sound H.h4 (H.tm 4) (fun j hj => (B.sc.lo k0 m0' j hj).2) (fun j hj => (B.sc.lo k2 hk2m j hj).2) e12 hne1 hl
        refine ⟨rfl, .inr ⟨q, c, g1, g2, ?_, ?_, g4⟩⟩
        · rw [g3]
          show Mark.gift c.r.hand _ = _
          rw [g2]
        · rw [g3]
end
end Sd

/-! the hall's state and what was done: an invariant -/
namespace Sd
theorem outOf_congr {m i : Nat} {d : Deed} {h h' : HandM} (e1 : h.ones = h'.ones) (e2 : h.took = h'.took) (e3 : h.readings = h'.readings) : outOf m i d h = outOf m i d h' := by
  unfold outOf
  rw [e1, e2, e3]
/-- how many readings a deed wants at the most -/
def rdMost (m : Nat) (d : Deed) : Nat :=
  match d with
  | .one => 0
  | .count | .give _ => 1
  | .take => 2
  | _ => m + 1
theorem Scan.takeN {C : List Chg} {m b : Nat} {rds : List (List Int)} {rd : List Int} {kss : List (Nat → Nat)} {kr : Nat → Nat} (s : Scan C m b rds rd kss kr) (n : Nat) : Scan C m b (rds.take n) [] (kss.take n) fun _ => 0 :=
  ⟨by rw [s.erds, List.map_take], rfl, fun ks h => s.mono ks (List.mem_of_mem_take h), (fun _ _ _ h => absurd h (Nat.not_lt_zero _)), s.pw.sublist (List.take_sublist _ _), (fun _ _ _ _ _ h => absurd h (Nat.not_lt_zero _)),
    fun ks h => s.lo ks (List.mem_of_mem_take h), fun _ h => absurd h (Nat.not_lt_zero _)⟩
section
variable {m : Nat} {G : Nat → List Chg} {i : Nat} {d : Deed} {h : HandM} {b : Nat} {kss : List (Nat → Nat)} {kr : Nat → Nat}
theorem nv_lt (H : Hists m G) (hi : i < m) (B : Busy m G i d h b kss kr) {n : Nat} (hn : n ≤ h.readings.length) (e : ∀ n', n' ≤ n → outOf m i d { h with readings := h.readings.take n' } = none) : n < rdMost m d := by
  have hnil : h.readings.take n = [] → n = 0 := fun z => by
    have := congrArg List.length z
    rw [List.length_take, Nat.min_eq_left hn] at this
    exact this
  have pic : ∀ t, 1 ≤ t → t ≤ 3 → t = d.thing → (∀ n', n' ≤ n → view m (h.readings.take n') = none) → n < m + 1 := fun t h1 h3 et hv => by
    have hlen : (h.readings.take n).length = n := by rw [List.length_take, Nat.min_eq_left hn]
    have hH := H.hp t h1 h3
    have := view_none (i := i) (p0 := cnt (G t) (G t).length i) hH (H.sm t) (by subst et; exact B.sc.takeN n) hi (fun ks hks => by
      subst et
      have hk := B.sc.lo ks (List.mem_of_mem_take hks) i hi
      exact congrArg List.length (busy_own B hk.1 hk.2)) (fun n' hn' => by
      rw [List.take_take]
      exact hv _ (Nat.min_le_right _ _))
    omega
  have pn : ∀ n', picOut m i d (h.readings.take n') = none → view m (h.readings.take n') = none := fun n' z => by
    unfold picOut at z
    cases hv : view m (h.readings.take n') with
    | none => rfl
    | some v => rw [hv] at z; cases z
  have e0 := e n (Nat.le_refl _)
  cases d with
  | one => cases e0
  | count =>
    have e' : cntOut .count h.ones (h.readings.take n) = none := e0
    unfold cntOut at e'
    dsimp only at e'
    split at e'
    · rename_i z
      rw [hnil z]
      exact Nat.zero_lt_one
    · cases e'
  | give g =>
    have e' : lineOut i (.give g) h.took (h.readings.take n) = none := e0
    unfold lineOut at e'
    split at e'
    · rename_i z
      rw [hnil z]
      exact Nat.zero_lt_one
    · cases e'
  | take =>
    have e' : lineOut i .take h.took (h.readings.take n) = none := e0
    unfold lineOut at e'
    split at e'
    · rename_i z
      rw [hnil z]
      exact Nat.zero_lt_two
    · dsimp only at e'
      split at e'
      · cases e'
      · split at e'
        · rename_i hl
          rw [List.length_take, Nat.min_eq_left hn] at hl
          exact hl
        · cases e'
  | set g => exact pic 1 (by decide) (by decide) rfl fun n' hn' => pn n' (e n' hn')
  | look => exact pic 1 (by decide) (by decide) rfl fun n' hn' => pn n' (e n' hn')
  | add g => exact pic 2 (by decide) (by decide) rfl fun n' hn' => pn n' (e n' hn')
  | sum => exact pic 2 (by decide) (by decide) rfl fun n' hn' => pn n' (e n' hn')
  | rais g => exact pic 3 (by decide) (by decide) rfl fun n' hn' => pn n' (e n' hn')
  | top => exact pic 3 (by decide) (by decide) rfl fun n' hn' => pn n' (e n' hn')
theorem busy_none (H : Hists m G) (hi : i < m) (B : Busy m G i d h b kss kr) (e : h.out = none) : h.readings.length < rdMost m d :=
  nv_lt H hi B (Nat.le_refl _) fun n' hn' => by
    by_cases c : n' < h.readings.length
    · exact B.nv n' c
    · have e' := B.out
      rw [e] at e'
      rw [List.take_of_length_le (by omega)]
      exact e'.symm
theorem rdMost_le (h4 : m ≤ 4) : rdMost m d ≤ 5 := by cases d <;> (unfold rdMost; dsimp only; omega)
theorem busy_len (H : Hists m G) (hi : i < m) (B : Busy m G i d h b kss kr) : h.readings.length ≤ rdMost m d := by
  cases c : h.readings.length with
  | zero => exact Nat.zero_le _
  | succ n =>
    have := nv_lt H hi B (n := n) (by omega) fun n' hn' => B.nv n' (by omega)
    omega
end
/-! the records -/
structure RecTime (recs : List Rec) (now : Nat) : Prop where
  ends : recs.Pairwise fun a b => a.fin < b.fin
  lt : ∀ r ∈ recs, r.fin < now
  beg : ∀ r ∈ recs, r.beg ≤ r.fin
  own : recs.Pairwise fun a b => a.hand = b.hand → a.fin < b.beg
def ToldBy (recs : List Rec) (marks : List Mark) (p x k : Nat) : Prop := ∃ (p' : Nat) (r' : Rec), p' < p ∧ recs[p']? = some r' ∧ r'.deed = .take ∧ marks[p']? = some (.gift x k)
structure Fact (m : Nat) (G : Nat → List Chg) (recs : List Rec) (marks : List Mark) (p : Nat) (r : Rec) (mk : Mark) : Prop where
  puts : r.deed.puts = true → r.ans = .non
  give : ∀ n, r.deed = .give n → ∃ (q : Nat) (c : Chg), (G 4)[q]? = some c ∧ c.r = r ∧ mk = .gift r.hand (cnt (G 4) q r.hand)
  tells : r.deed.tells = true → ∃ K : Nat, K ≤ (G r.deed.thing).length ∧ mk = .mom K ∧ r.ans = tellAns m r.deed (G r.deed.thing) K ∧
    (∀ (q : Nat) (c : Chg), (G r.deed.thing)[q]? = some c → q < K → c.r.fin < r.fin) ∧ (∀ (q : Nat) (c : Chg), (G r.deed.thing)[q]? = some c → K ≤ q → r.beg < c.r.fin)
  take : r.deed = .take → (mk = .non ∧ r.ans = .non ∧ ∀ (q : Nat) (c : Chg), (G 4)[q]? = some c → c.r.fin ≤ r.beg → ToldBy recs marks p c.r.hand (cnt (G 4) q c.r.hand)) ∨
    (∃ (q : Nat) (c : Chg), (G 4)[q]? = some c ∧ mk = .gift c.r.hand (cnt (G 4) q c.r.hand) ∧ r.ans = .int (giftOf c.r.deed) ∧ c.r.fin < r.fin ∧ ¬ ToldBy recs marks p c.r.hand (cnt (G 4) q c.r.hand) ∧
      ∀ (q' : Nat) (c' : Chg), (G 4)[q']? = some c' → c'.r.fin < c.r.beg → ToldBy recs marks p c'.r.hand (cnt (G 4) q' c'.r.hand))
def isChg (t : Nat) (r : Rec) : Bool := r.deed.puts && r.deed.thing == t
structure HandInv (m : Nat) (G : Nat → List Chg) (recs : List Rec) (now : Nat) (plan : List Deed) (i : Nat) (h : HandM) : Prop where
  le : h.ended ≤ plan.length
  took : h.took.length = m
  ones : h.ones = (cnt (G 0) (G 0).length i : Nat)
  rd0 : h.steps = 0 → h.reading = []
  rl : h.readings.length ≤ 5
  done : (recs.filter fun r => r.hand == i).map (·.deed) = plan.take h.ended
  busy : h.steps ≠ 0 → ∀ d, plan[h.ended]? = some d → (∃ b kss kr, Busy m G i d h b kss kr) ∧ h.beg < now ∧ (∀ r ∈ recs, r.hand = i → r.fin < h.beg) ∧ (∀ o, h.out = some o → o.num.isSome = true) ∧ h.steps = m * h.readings.length + h.reading.length
structure HallInv (s : HallM) (G : Nat → List Chg) : Prop where
  m1 : 1 ≤ s.many
  m4 : s.many ≤ 4
  plans : ∀ i d, d ∈ s.plan i → d.ok ∧ (d = .take → i = 0)
  plen : ∀ i, (s.plan i).length ≤ 40
  hl : s.hands.length = s.many
  bl : s.boxes.length = 5 * s.many
  hand : ∀ i, i < s.many → HandInv s.many G s.recs s.touches.length (s.plan i) i (s.hand i)
  box : ∀ t j, t < 5 → j < s.many → s.boxes.getD (t * s.many + j) 0 = raw (G t) (G t).length j
  h0 : OneHist s.many (G 0)
  hp : ∀ t, 1 ≤ t → t ≤ 3 → PicHist s.many (G t)
  h4 : LineHist s.many (G 4)
  erec : ∀ t, (G t).map (·.r) = s.recs.filter (isChg t)
  rok : ∀ r ∈ s.recs, r.hand < s.many ∧ r.deed ∈ s.plan r.hand
  time : RecTime s.recs s.touches.length
  ml : s.marks.length = s.recs.length
  facts : ∀ p r mk, s.recs[p]? = some r → s.marks[p]? = some mk → Fact s.many G s.recs s.marks p r mk
  told : ∀ x k, ToldBy s.recs s.marks s.recs.length x k ↔ k < (s.hand 0).took.getD x 0
  sum : sumH s.many (fun i => ((s.hand i).ended : Int)) = s.recs.length
theorem HallInv.len {s : HallM} {G : Nat → List Chg} (I : HallInv s G) : s.recs.length ≤ 160 := by
  have h1 := I.sum
  have h2 : sumH s.many (fun i => ((s.hand i).ended : Int)) ≤ sumH s.many fun _ => 40 := sumH_le fun j hj => by
    have h3 := (I.hand j hj).le
    have h4 := I.plen j
    omega
  have h3 : ∀ n : Nat, sumH n (fun _ => 40) = 40 * n := by
    intro n
    induction n with
    | zero => rfl
    | succ n ih => rw [sumH_succ, ih]; omega
  rw [h3] at h2
  have := I.m4
  omega
theorem HallInv.hists {s : HallM} {G : Nat → List Chg} (I : HallInv s G) : Hists s.many G := by
  have hsub : ∀ t, ((G t).map (·.r)).Sublist s.recs := fun t => by rw [I.erec t]; exact List.filter_sublist
  refine ⟨I.h0, I.hp, I.h4, fun t => ⟨fun p q a b ha hb hpq => ?_, fun c hc => ?_, fun p q a b ha hb hpq hh => ?_⟩, fun t => ⟨fun c hc => ?_, ?_⟩⟩
  · have hp := List.pairwise_iff_getElem.mp (I.time.ends.sublist (hsub t))
    obtain ⟨hp1, ep⟩ := List.getElem?_eq_some_iff.mp ha
    obtain ⟨hq1, eq⟩ := List.getElem?_eq_some_iff.mp hb
    have := hp p q (by rw [List.length_map]; exact hp1) (by rw [List.length_map]; exact hq1) hpq
    rw [List.getElem_map, List.getElem_map, ep, eq] at this
    exact this
  · exact I.time.beg _ ((hsub t).subset (List.mem_map_of_mem hc))
  · have hp := List.pairwise_iff_getElem.mp (I.time.own.sublist (hsub t))
    obtain ⟨hp1, ep⟩ := List.getElem?_eq_some_iff.mp ha
    obtain ⟨hq1, eq⟩ := List.getElem?_eq_some_iff.mp hb
    have := hp p q (by rw [List.length_map]; exact hp1) (by rw [List.length_map]; exact hq1) hpq
    rw [List.getElem_map, List.getElem_map, ep, eq] at this
    exact this hh
  · exact (I.plans _ _ (I.rok _ ((hsub t).subset (List.mem_map_of_mem hc))).2).1
  · have := (hsub t).length_le
    rw [List.length_map] at this
    have := I.len
    omega
theorem box_ok {m : Nat} {G : Nat → List Chg} (H : Hists m G) {t : Nat} (ht : t < 5) {k h : Nat} (hk : k ≤ (G t).length) : BoxOk m t (raw (G t) k h) := by
  unfold BoxOk
  by_cases h0 : t = 0
  · rw [if_pos h0]
    exact True.intro
  · rw [if_neg h0]
    by_cases h4 : t = 4
    · subst h4
      rw [if_pos rfl]
      exact lineBox H.h4 (H.sm 4) hk h
    · rw [if_neg h4]
      exact picBox (H.hp t (by omega) (by omega)) (H.sm t) hk
theorem puts_of {d : Deed} (h1 : d.tells = false) (h2 : d ≠ .take) : d.puts = true := by
  cases d with
  | take => exact absurd rfl h2
  | one | set _ | add _ | rais _ | give _ => rfl
  | count | look | sum | top => cases h1
/-- a hand's step wants no more than there is -/
theorem HallInv.pre {s : HallM} {G : Nat → List Chg} (I : HallInv s G) {i : Nat} (hi : i < s.many) {d : Deed} (e : (s.plan i)[(s.hand i).ended]? = some d) : HandPre s.many i d s.boxes (s.hand i) := by
  have H := I.hists
  have hI := I.hand i hi
  have hd := I.plans i d (List.mem_of_getElem? e)
  have ht : d.thing < 5 := Nat.lt_succ_of_le d.thing_le
  refine ⟨hi, I.m4, hd.1, hI.took, hd.2, I.bl, fun j hj => ?_, ?_, ?_, hI.rd0, fun hs r hr => ?_, fun hs o ho => ?_, ?_⟩
  · rw [I.box d.thing j ht hj]
    exact box_ok H ht (Nat.le_refl _)
  · by_cases hs : (s.hand i).steps = 0
    · rw [hI.rd0 hs]
      exact I.m1
    · obtain ⟨⟨b, kss, kr, B⟩, _⟩ := hI.busy hs d e
      exact B.lt
  · intro n hn
    by_cases hs : (s.hand i).steps = 0
    · rw [hI.rd0 hs] at hn
      cases hn
    · obtain ⟨⟨b, kss, kr, B⟩, _⟩ := hI.busy hs d e
      rw [B.sc.erd] at hn
      obtain ⟨j, hj, rfl⟩ := List.mem_map.mp hn
      exact box_ok H ht (B.sc.lor j (List.mem_range.mp hj)).2
  · obtain ⟨⟨b, kss, kr, B⟩, _⟩ := hI.busy hs d e
    rw [B.sc.erds] at hr
    obtain ⟨ks, hks, rfl⟩ := List.mem_map.mp hr
    refine ⟨look1_len, fun n hn => ?_⟩
    obtain ⟨j, hj, rfl⟩ := List.mem_map.mp hn
    exact box_ok H ht (B.sc.lo ks hks j (List.mem_range.mp hj)).2
  · obtain ⟨⟨b, kss, kr, B⟩, _, _, hn, _⟩ := hI.busy hs d e
    have h1 := hn o ho
    refine ⟨h1, puts_of ?_ ?_⟩
    · cases ht : d.tells with
      | false => rfl
      | true =>
        have := (tells_sound H (by have := I.m1; omega) ht B ho).1
        rw [this] at h1
        cases h1
    · intro z
      subst z
      have := (take_told H (by have := I.m1; omega) B ho).1
      rw [this] at h1
      cases h1
  · have := hI.rl
    omega
end Sd

/-! a step keeps the invariant -/
namespace Sd
theorem own_full (C : List Chg) (h : Nat) : own C C.length h = C.filter fun c => c.r.hand == h := by unfold own; rw [List.take_length]
theorem own_other {C E : List Chg} {j : Nat} (hE : ∀ c ∈ E, c.r.hand ≠ j) : own (C ++ E) (C ++ E).length j = own C C.length j := by
  rw [own_full, own_full, List.filter_append]
  have : E.filter (fun c => c.r.hand == j) = [] := List.filter_eq_nil_iff.mpr fun c hc => by simpa using hE c hc
  rw [this, List.append_nil]
section
variable {m : Nat} {G : Nat → List Chg} {i : Nat} {d : Deed} {h : HandM} {b : Nat} {kss : List (Nat → Nat)} {kr : Nat → Nat}
/-- a box is taken -/
theorem keep_busy (B : Busy m G i d h b kss kr) (h0 : h.out = none) : ∃ kss' kr', Busy m G i d (h.keep m i d (raw (G d.thing) (G d.thing).length h.reading.length)) b kss' kr' ∧
    m * (h.keep m i d (raw (G d.thing) (G d.thing).length h.reading.length)).readings.length + (h.keep m i d (raw (G d.thing) (G d.thing).length h.reading.length)).reading.length = m * h.readings.length + h.reading.length + 1 := by
  obtain ⟨kr', _, _, g3, g4⟩ := B.sc.take B.bl
  generalize raw (G d.thing) (G d.thing).length h.reading.length = n at g3 g4 ⊢
  have hlt := B.lt
  by_cases c : h.reading.length + 1 = m
  · have hr : (h.reading ++ [n]).length = m := by rw [List.length_append]; exact c
    have ek : h.keep m i d n = { h with readings := h.readings ++ [h.reading ++ [n]], reading := [], out := outOf m i d { h with readings := h.readings ++ [h.reading ++ [n]] } } := by
      unfold HandM.keep
      dsimp only
      rw [if_pos hr]
    rw [ek]
    refine ⟨kss ++ [kr'], fun _ => 0, ⟨g4 c, by show 0 < m; omega, B.b1, B.b2, B.bl, B.own, outOf_congr rfl rfl rfl, fun n' hn' => ?_, fun _ => rfl⟩, ?_⟩
    · have hn' : n' < h.readings.length + 1 := by
        have := hn'
        rw [show ({ h with readings := h.readings ++ [h.reading ++ [n]], reading := [], out := outOf m i d { h with readings := h.readings ++ [h.reading ++ [n]] } } : HandM).readings = h.readings ++ [h.reading ++ [n]] from rfl, List.length_append] at this
        exact this
      show outOf m i d { h with readings := (h.readings ++ [h.reading ++ [n]]).take n', reading := [], out := _ } = none
      by_cases c2 : n' < h.readings.length
      · rw [← B.nv n' c2]
        exact outOf_congr rfl rfl (List.take_append_of_le_length (by omega))
      · have e : n' = h.readings.length := by omega
        rw [← h0, B.out, e]
        exact outOf_congr rfl rfl (by show (h.readings ++ _).take h.readings.length = _; rw [List.take_left])
    · show m * (h.readings ++ [h.reading ++ [n]]).length + 0 = _
      rw [List.length_append, Nat.mul_add]
      show m * h.readings.length + m * 1 + 0 = _
      omega
  · have hr : (h.reading ++ [n]).length ≠ m := by rw [List.length_append]; exact c
    have ek : h.keep m i d n = { h with reading := h.reading ++ [n] } := by
      unfold HandM.keep
      dsimp only
      rw [if_neg hr]
    rw [ek]
    refine ⟨kss, kr', ⟨g3 (by omega), by show (h.reading ++ [n]).length < m; rw [List.length_append]; show _ + 1 < m; omega, B.b1, B.b2, B.bl, B.own, B.out.trans (outOf_congr rfl rfl rfl), fun n' hn' => (outOf_congr rfl rfl rfl).trans (B.nv n' hn'), fun z => absurd h0 z⟩, ?_⟩
    show m * h.readings.length + (h.reading ++ [n]).length = _
    rw [List.length_append]
    rfl
/-- other hands: more changes stand behind theirs -/
theorem Busy.grow {E : Nat → List Chg} {now : Nat} (B : Busy m G i d h b kss kr) (hE : ∀ t c, c ∈ E t → c.r.hand ≠ i ∧ c.r.fin = now) (hb : h.beg < now) : Busy m (fun t => G t ++ E t) i d h b kss kr := by
  have split : ∀ {q : Nat} {c : Chg}, (G d.thing ++ E d.thing)[q]? = some c → (G d.thing)[q]? = some c ∨ (c ∈ E d.thing ∧ (G d.thing).length ≤ q) := fun {q c} e => by
    by_cases hq : q < (G d.thing).length
    · rw [List.getElem?_append_left hq] at e
      exact .inl e
    · rw [List.getElem?_append_right (by omega)] at e
      exact .inr ⟨List.mem_of_getElem? e, by omega⟩
  have hbl := B.bl
  refine ⟨B.sc.grow, B.lt, fun q c e hq => ?_, fun q c e hq => ?_, by show b ≤ (G d.thing ++ E d.thing).length; rw [List.length_append]; omega, fun q c e hh => ?_, B.out, B.nv, B.rdo⟩
  · rcases split e with e | ⟨_, h2⟩
    · exact B.b1 q c e hq
    · omega
  · rcases split e with e | ⟨h1, _⟩
    · exact B.b2 q c e hq
    · rw [(hE _ c h1).2]
      exact hb
  · rcases split e with e | ⟨h1, _⟩
    · exact B.own q c e hh
    · exact absurd hh (hE _ c h1).1
theorem HandInv.other {recs R : List Rec} {now : Nat} {plan : List Deed} {E : Nat → List Chg} (I : HandInv m G recs now plan i h) (hE : ∀ t c, c ∈ E t → c.r.hand ≠ i ∧ c.r.fin = now) (hR : ∀ r ∈ R, r.hand ≠ i) :
    HandInv m (fun t => G t ++ E t) (recs ++ R) (now + 1) plan i h := by
  refine ⟨I.le, I.took, ?_, I.rd0, I.rl, ?_, fun hs d e => ?_⟩
  · show h.ones = (own (G 0 ++ E 0) (G 0 ++ E 0).length i).length
    rw [own_other fun c hc => (hE 0 c hc).1]
    exact I.ones
  · have : R.filter (fun r => r.hand == i) = [] := List.filter_eq_nil_iff.mpr fun c hc => by simpa using hR c hc
    rw [List.filter_append, this, List.append_nil]
    exact I.done
  · obtain ⟨⟨b, kss, kr, B⟩, h1, h2, h3, h4⟩ := I.busy hs d e
    refine ⟨⟨b, kss, kr, B.grow hE h1⟩, by omega, fun r hr hh => ?_, h3, h4⟩
    rcases List.mem_append.mp hr with hr | hr
    · exact h2 r hr hh
    · exact absurd hh (hR r hr)
end
theorem ToldBy.app {recs R : List Rec} {marks M : List Mark} {p x k : Nat} (hl : marks.length = recs.length) (hp : p ≤ recs.length) : ToldBy (recs ++ R) (marks ++ M) p x k ↔ ToldBy recs marks p x k := by
  refine ⟨fun ⟨p', r', h1, h2, h3, h4⟩ => ⟨p', r', h1, ?_, h3, ?_⟩, fun ⟨p', r', h1, h2, h3, h4⟩ => ⟨p', r', h1, ?_, h3, ?_⟩⟩
  · rw [List.getElem?_append_left (by omega)] at h2; exact h2
  · rw [List.getElem?_append_left (by omega)] at h4; exact h4
  · rw [List.getElem?_append_left (by omega)]; exact h2
  · rw [List.getElem?_append_left (by omega)]; exact h4
theorem tellAns_app {m : Nat} {d : Deed} {C E : List Chg} {K : Nat} (h : K ≤ C.length) : tellAns m d (C ++ E) K = tellAns m d C K := by
  unfold tellAns
  rw [cellsAt_app h]
theorem Fact.grow {m : Nat} {G E : Nat → List Chg} {recs R : List Rec} {marks M : List Mark} {p now : Nat} {r : Rec} {mk : Mark} (F : Fact m G recs marks p r mk) (hl : marks.length = recs.length) (hp : p ≤ recs.length)
    (hE : ∀ t c, c ∈ E t → c.r.fin = now) (hb : r.beg ≤ r.fin) (hf : r.fin < now) (hbG : ∀ c ∈ G 4, c.r.beg ≤ c.r.fin ∧ c.r.fin < now) : Fact m (fun t => G t ++ E t) (recs ++ R) (marks ++ M) p r mk := by
  have split : ∀ {t q : Nat} {c : Chg}, (G t ++ E t)[q]? = some c → (q < (G t).length ∧ (G t)[q]? = some c) ∨ (c ∈ E t ∧ (G t).length ≤ q) := fun {t q c} e => by
    by_cases hq : q < (G t).length
    · rw [List.getElem?_append_left hq] at e
      exact .inl ⟨hq, e⟩
    · rw [List.getElem?_append_right (by omega)] at e
      exact .inr ⟨List.mem_of_getElem? e, by omega⟩
  have old : ∀ {t q : Nat} {c : Chg}, (G t)[q]? = some c → (G t ++ E t)[q]? = some c := fun {t q c} e => by
    rw [List.getElem?_append_left (List.getElem?_eq_some_iff.mp e).1]; exact e
  have cn : ∀ {t q x : Nat} {c : Chg}, (G t)[q]? = some c → cnt (G t ++ E t) q x = cnt (G t) q x := fun {t q x c} e => cnt_app (Nat.le_of_lt (List.getElem?_eq_some_iff.mp e).1)
  refine ⟨F.puts, fun n hn => ?_, fun ht => ?_, fun ht => ?_⟩
  · obtain ⟨q, c, h1, h2, h3⟩ := F.give n hn
    exact ⟨q, c, old h1, h2, by rw [h3]; show _ = Mark.gift _ (cnt (G 4 ++ E 4) q r.hand); rw [cn h1]⟩
  · obtain ⟨K, h1, h2, h3, h4, h5⟩ := F.tells ht
    refine ⟨K, by show K ≤ (G _ ++ E _).length; rw [List.length_append]; omega, h2, by rw [h3]; exact (tellAns_app h1).symm, fun q c e hq => ?_, fun q c e hq => ?_⟩
    · rcases split e with ⟨_, e⟩ | ⟨_, e⟩
      · exact h4 q c e hq
      · omega
    · rcases split e with ⟨_, e⟩ | ⟨e, _⟩
      · exact h5 q c e hq
      · rw [hE _ c e]; omega
  · have early : ∀ (f : Nat), f < now → (∀ (q : Nat) (c : Chg), (G 4)[q]? = some c → c.r.fin < f → ToldBy recs marks p c.r.hand (cnt (G 4) q c.r.hand)) →
        ∀ (q : Nat) (c : Chg), (G 4 ++ E 4)[q]? = some c → c.r.fin < f → ToldBy (recs ++ R) (marks ++ M) p c.r.hand (cnt (G 4 ++ E 4) q c.r.hand) := fun f hfn h q c e hc => by
      rcases split e with ⟨_, e⟩ | ⟨e, _⟩
      · rw [cn e]
        exact (ToldBy.app hl hp).mpr (h q c e hc)
      · rw [hE _ c e] at hc
        omega
    have early2 : (∀ (q : Nat) (c : Chg), (G 4)[q]? = some c → c.r.fin ≤ r.beg → ToldBy recs marks p c.r.hand (cnt (G 4) q c.r.hand)) →
        ∀ (q : Nat) (c : Chg), (G 4 ++ E 4)[q]? = some c → c.r.fin ≤ r.beg → ToldBy (recs ++ R) (marks ++ M) p c.r.hand (cnt (G 4 ++ E 4) q c.r.hand) := fun h q c e hc => by
      rcases split e with ⟨_, e⟩ | ⟨e, _⟩
      · rw [cn e]
        exact (ToldBy.app hl hp).mpr (h q c e hc)
      · rw [hE _ c e] at hc
        omega
    rcases F.take ht with ⟨h1, h2, h3⟩ | ⟨q, c, h1, h2, h3, h4, h5, h6⟩
    · exact .inl ⟨h1, h2, early2 h3⟩
    · refine .inr ⟨q, c, old h1, by show mk = Mark.gift _ (cnt (G 4 ++ E 4) q _); rw [cn h1]; exact h2, h3, h4, fun z => h5 ?_, early c.r.beg ?_ h6⟩
      · have : ToldBy (recs ++ R) (marks ++ M) p c.r.hand (cnt (G 4 ++ E 4) q c.r.hand) := z
        rw [cn h1] at this
        exact (ToldBy.app hl hp).mp this
      · have := hbG c (List.mem_of_getElem? h1)
        omega
/-! the step -/
theorem HallM.put_hand {s : HallM} {i : Nat} {st : Step} (hl : i < s.hands.length) (j : Nat) : (s.put i st).hand j = if j = i then st.hand else s.hand j := by
  show (s.hands.set i st.hand).getD j _ = _
  by_cases c : j = i
  · subst c
    rw [if_pos rfl, List.getD_eq_getElem?_getD, List.getElem?_set_self hl]
    rfl
  · rw [if_neg c, List.getD_eq_getElem?_getD, List.getElem?_set_ne (Ne.symm c), ← List.getD_eq_getElem?_getD]
    rfl
/-- a step that ends no deed -/
theorem HallInv.next0 {s : HallM} {G : Nat → List Chg} (I : HallInv s G) {i : Nat} (hi : i < s.many) {st : Step} (h1 : st.ended = none) (h2 : st.boxes = s.boxes) (h3 : HandInv s.many G s.recs (s.touches.length + 1) (s.plan i) i st.hand)
    (h4 : st.hand.took = (s.hand i).took) (h5 : st.hand.ended = (s.hand i).ended) : HallInv (s.put i st) G := by
  have er : (s.put i st).recs = s.recs := by show s.recs ++ _ = _; rw [h1]; exact List.append_nil _
  have em : (s.put i st).marks = s.marks := by show s.marks ++ _ = _; rw [h1]; exact List.append_nil _
  have et : (s.put i st).touches.length = s.touches.length + 1 := by show (s.touches ++ _).length = _; rw [List.length_append]; rfl
  have hh := HallM.put_hand (s := s) (i := i) (st := st) (by rw [I.hl]; exact hi)
  have ez : (fun t => G t ++ (fun _ => ([] : List Chg)) t) = G := funext fun t => List.append_nil _
  refine ⟨I.m1, I.m4, I.plans, I.plen, by show (s.hands.set i _).length = _; rw [List.length_set]; exact I.hl, by show st.boxes.length = _; rw [h2]; exact I.bl, fun j hj => ?_, fun t j ht hj => by show st.boxes.getD _ _ = _; rw [h2]; exact I.box t j ht hj, I.h0, I.hp, I.h4, fun t => by rw [er]; exact I.erec t, fun r hr => I.rok r (er ▸ hr), ?_, by rw [er, em]; exact I.ml, ?_, ?_, ?_⟩
  · rw [er, et, hh j]
    by_cases c : j = i
    · subst c
      rw [if_pos rfl]
      exact h3
    · rw [if_neg c]
      have := (I.hand j hj).other (E := fun _ => []) (R := []) (fun t c hc => nomatch hc) (fun r hr => nomatch hr)
      rw [ez, List.append_nil] at this
      exact this
  · rw [er, et]
    exact ⟨I.time.ends, fun r hr => Nat.lt_succ_of_lt (I.time.lt r hr), I.time.beg, I.time.own⟩
  · rw [er, em]
    exact I.facts
  · intro x k
    rw [er, em, hh 0, I.told x k]
    by_cases c : 0 = i
    · subst c
      rw [if_pos rfl, h4]
    · rw [if_neg c]
  · rw [er, ← I.sum]
    refine sumH_congr fun j _ => ?_
    rw [hh j]
    by_cases c : j = i
    · subst c
      rw [if_pos rfl, h5]
    · rw [if_neg c]
end Sd

/-! a step that ends a deed -/
namespace Sd
theorem HallInv.next1 {s : HallM} {G : Nat → List Chg} (I : HallInv s G) {i : Nat} (hi : i < s.many) {d : Deed} (e : (s.plan i)[(s.hand i).ended]? = some d) {st : Step} {r : Rec} {mk : Mark} {E : Nat → List Chg} (h1 : st.ended = some (r, mk))
    (hr : r.hand = i ∧ r.deed = d ∧ r.fin = s.touches.length ∧ r.beg ≤ s.touches.length) (hown : ∀ r' ∈ s.recs, r'.hand = i → r'.fin < r.beg)
    (hE : ∀ t c, c ∈ E t → c.r = r) (hErec : ∀ t, (E t).map (·.r) = if isChg t r then [r] else [])
    (hh0 : OneHist s.many (G 0 ++ E 0)) (hhp : ∀ t, 1 ≤ t → t ≤ 3 → PicHist s.many (G t ++ E t)) (hh4 : LineHist s.many (G 4 ++ E 4))
    (hbl : st.boxes.length = 5 * s.many) (hbox : ∀ t j, t < 5 → j < s.many → st.boxes.getD (t * s.many + j) 0 = raw (G t ++ E t) (G t ++ E t).length j)
    (hnd : st.hand.ended = (s.hand i).ended + 1) (htk : st.hand.took.length = s.many) (hon : st.hand.ones = (cnt (G 0 ++ E 0) (G 0 ++ E 0).length i : Nat)) (hst : st.hand.steps = 0) (hrd : st.hand.reading = []) (hrl : st.hand.readings.length ≤ 5)
    (hfact : Fact s.many (fun t => G t ++ E t) (s.recs ++ [r]) (s.marks ++ [mk]) s.recs.length r mk)
    (htold : ∀ x k, ToldBy (s.recs ++ [r]) (s.marks ++ [mk]) (s.recs.length + 1) x k ↔ k < (if 0 = i then st.hand else s.hand 0).took.getD x 0) :
    HallInv (s.put i st) (fun t => G t ++ E t) := by
  obtain ⟨r1, r2, r3, r4⟩ := hr
  have er : (s.put i st).recs = s.recs ++ [r] := by show s.recs ++ _ = _; rw [h1]; rfl
  have em : (s.put i st).marks = s.marks ++ [mk] := by show s.marks ++ _ = _; rw [h1]; rfl
  have et : (s.put i st).touches.length = s.touches.length + 1 := by show (s.touches ++ _).length = _; rw [List.length_append]; rfl
  have hh := HallM.put_hand (s := s) (i := i) (st := st) (by rw [I.hl]; exact hi)
  have hlen : (s.recs ++ [r]).length = s.recs.length + 1 := by rw [List.length_append]; rfl
  have hI := I.hand i hi
  have hlt := (List.getElem?_eq_some_iff.mp e).1
  have hE' : ∀ t c, c ∈ E t → c.r.hand = i ∧ c.r.fin = s.touches.length := fun t c hc => by rw [hE t c hc]; exact ⟨r1, r3⟩
  refine ⟨I.m1, I.m4, I.plans, I.plen, by show (s.hands.set i _).length = _; rw [List.length_set]; exact I.hl, hbl, fun j hj => ?_, hbox, hh0, hhp, hh4, fun t => ?_, fun r' hr' => ?_, ?_, ?_, ?_, ?_, ?_⟩
  · rw [er, et, hh j]
    by_cases c : j = i
    · subst c
      rw [if_pos rfl]
      refine ⟨by rw [hnd]; exact hlt, htk, hon, fun _ => hrd, hrl, ?_, fun z => absurd hst z⟩
      rw [List.filter_append, List.map_append, hnd]
      show _ = (s.plan j).take ((s.hand j).ended + 1)
      rw [hI.done, List.take_succ_eq_append_getElem hlt, List.filter_cons_of_pos (by simpa using r1)]
      congr 1
      show [r.deed] = _
      rw [r2]
      have := (List.getElem?_eq_some_iff.mp e).2
      rw [← this]
    · rw [if_neg c]
      exact (I.hand j hj).other (fun t c' hc => ⟨by rw [(hE' t c' hc).1]; exact Ne.symm c, (hE' t c' hc).2⟩) (fun r' hr' => by rw [List.mem_singleton.mp hr', r1]; exact Ne.symm c)
  · show (G t ++ E t).map _ = _
    rw [er, List.map_append, I.erec t, hErec t, List.filter_append]
    congr 1
    by_cases c : isChg t r = true
    · rw [if_pos c, List.filter_cons_of_pos c]
      rfl
    · rw [if_neg c, List.filter_cons_of_neg c]
      rfl
  · rw [er] at hr'
    rcases List.mem_append.mp hr' with hr' | hr'
    · exact I.rok r' hr'
    · rw [List.mem_singleton.mp hr', r1, r2]
      exact ⟨hi, List.mem_of_getElem? e⟩
  · rw [er, et]
    refine ⟨?_, fun r' hr' => ?_, fun r' hr' => ?_, ?_⟩
    · rw [List.pairwise_append]
      refine ⟨I.time.ends, List.pairwise_singleton _ _, fun a ha b hb => ?_⟩
      rw [List.mem_singleton.mp hb, r3]
      exact I.time.lt a ha
    · rcases List.mem_append.mp hr' with hr' | hr'
      · exact Nat.lt_succ_of_lt (I.time.lt r' hr')
      · rw [List.mem_singleton.mp hr', r3]
        exact Nat.lt_succ_self _
    · rcases List.mem_append.mp hr' with hr' | hr'
      · exact I.time.beg r' hr'
      · rw [List.mem_singleton.mp hr', r3]
        exact r4
    · rw [List.pairwise_append]
      refine ⟨I.time.own, List.pairwise_singleton _ _, fun a ha b hb hab => ?_⟩
      rw [List.mem_singleton.mp hb] at hab ⊢
      exact hown a ha (hab.trans r1)
  · rw [er, em, List.length_append, List.length_append, I.ml]
    rfl
  · intro p r' mk' e1 e2
    rw [er] at e1 ⊢
    rw [em] at e2 ⊢
    by_cases c : p < s.recs.length
    · rw [List.getElem?_append_left c] at e1
      rw [List.getElem?_append_left (by rw [I.ml]; exact c)] at e2
      have hm := List.mem_of_getElem? e1
      refine (I.facts p r' mk' e1 e2).grow I.ml (Nat.le_of_lt c) (fun t c' hc => (hE' t c' hc).2) (I.time.beg r' hm) (I.time.lt r' hm) fun c' hc' => ?_
      have hs : c'.r ∈ s.recs := by
        have h2 : c'.r ∈ (G 4).map (·.r) := List.mem_map_of_mem hc'
        rw [I.erec 4] at h2
        exact (List.mem_filter.mp h2).1
      exact ⟨I.time.beg _ hs, I.time.lt _ hs⟩
    · have hp : p = s.recs.length := by
        have := (List.getElem?_eq_some_iff.mp e1).1
        omega
      subst hp
      rw [List.getElem?_append_right (Nat.le_refl _), Nat.sub_self] at e1
      rw [List.getElem?_append_right (by rw [I.ml]; exact Nat.le_refl _), I.ml, Nat.sub_self] at e2
      cases e1
      cases e2
      exact hfact
  · intro x k
    rw [er, em, hh 0, hlen]
    exact htold x k
  · rw [er, hlen]
    have : sumH s.many (fun j => (((s.put i st).hand j).ended : Int)) = sumH s.many (fun j => ((s.hand j).ended : Int)) + 1 := sumH_one hi fun j _ => by
      rw [hh j]
      by_cases c : j = i
      · subst c
        rw [if_pos rfl, if_pos rfl, hnd]
        rfl
      · rw [if_neg c, if_neg c]
    show sumH s.many _ = _
    rw [this, I.sum]
    rfl
theorem raw_self {C : List Chg} {c : Chg} : raw (C ++ [c]) (C ++ [c]).length c.r.hand = c.num := by
  have ho := own_snoc (C := C) (c := c) c.r.hand
  rw [if_pos rfl] at ho
  unfold raw
  rw [List.length_append]
  show ((own (C ++ [c]) (C.length + 1) c.r.hand).getLast?.map _).getD 0 = _
  rw [ho, List.getLast?_append]
  rfl
theorem raw_other {C E : List Chg} {j : Nat} (hE : ∀ c ∈ E, c.r.hand ≠ j) : raw (C ++ E) (C ++ E).length j = raw C C.length j := by
  unfold raw
  rw [own_other hE]
theorem HallInv.first {s : HallM} {G : Nat → List Chg} (I : HallInv s G) {i : Nat} (hi : i < s.many) {d : Deed} (e : (s.plan i)[(s.hand i).ended]? = some d) :
    ∃ h1 b kss kr, h1 = (s.hand i).first s.many i d s.touches.length ∧ Busy s.many G i d h1 b kss kr ∧ h1.beg ≤ s.touches.length ∧ (∀ r ∈ s.recs, r.hand = i → r.fin < h1.beg) ∧ (∀ o, h1.out = some o → o.num.isSome = true) ∧
      h1.steps = s.many * h1.readings.length + h1.reading.length + 1 ∧ h1.took = (s.hand i).took ∧ h1.ones = (s.hand i).ones ∧ h1.ended = (s.hand i).ended := by
  have hI := I.hand i hi
  by_cases hs : (s.hand i).steps = 0
  · have e1 : (s.hand i).first s.many i d s.touches.length = { s.hand i with beg := s.touches.length, readings := [], out := outOf s.many i d { s.hand i with readings := [] }, steps := (s.hand i).steps + 1 } := by
      unfold HandM.first HandM.start
      rw [if_pos hs]
    have hrd := hI.rd0 hs
    refine ⟨_, (G d.thing).length, [], fun _ => 0, e1.symm, ⟨?_, ?_, fun q c hq _ => ?_, fun q c hq h => ?_, Nat.le_refl _, fun q c hq _ => (List.getElem?_eq_some_iff.mp hq).1, outOf_congr rfl rfl rfl, fun n hn => absurd hn (Nat.not_lt_zero _), fun _ => hrd⟩, Nat.le_refl _, fun r hr _ => I.time.lt r hr, fun o ho => (out_nil (h := s.hand i) ho).1, ?_, rfl, rfl, rfl⟩
    · show Scan _ _ _ [] (s.hand i).reading [] _
      rw [hrd]
      exact Scan.empty _ _ _
    · show (s.hand i).reading.length < _
      rw [hrd]
      exact I.m1
    · have h2 : c.r ∈ (G d.thing).map (·.r) := List.mem_map_of_mem (List.mem_of_getElem? hq)
      rw [I.erec] at h2
      exact I.time.lt _ (List.mem_filter.mp h2).1
    · have := (List.getElem?_eq_some_iff.mp hq).1
      omega
    · show (s.hand i).steps + 1 = s.many * 0 + (s.hand i).reading.length + 1
      rw [hrd, hs]
      rfl
  · have e1 : (s.hand i).first s.many i d s.touches.length = { s.hand i with steps := (s.hand i).steps + 1 } := by
      unfold HandM.first HandM.start
      rw [if_neg hs]
    obtain ⟨⟨b, kss, kr, B⟩, g1, g2, g3, g4⟩ := hI.busy hs d e
    exact ⟨_, b, kss, kr, e1.symm, ⟨B.sc, B.lt, B.b1, B.b2, B.bl, B.own, B.out.trans (outOf_congr rfl rfl rfl), fun n hn => (outOf_congr rfl rfl rfl).trans (B.nv n hn), B.rdo⟩, Nat.le_of_lt g1, g2, g3, by show (s.hand i).steps + 1 = _; rw [g4], rfl, rfl, rfl⟩
theorem ToldBy.last {recs : List Rec} {marks : List Mark} {r : Rec} {mk : Mark} (hl : marks.length = recs.length) (x k : Nat) :
    ToldBy (recs ++ [r]) (marks ++ [mk]) (recs.length + 1) x k ↔ ToldBy recs marks recs.length x k ∨ (r.deed = .take ∧ mk = .gift x k) := by
  refine ⟨fun ⟨p', r', h1, h2, h3, h4⟩ => ?_, fun h => ?_⟩
  · by_cases c : p' < recs.length
    · rw [List.getElem?_append_left c] at h2
      rw [List.getElem?_append_left (by omega)] at h4
      exact .inl ⟨p', r', c, h2, h3, h4⟩
    · have hp : p' = recs.length := by omega
      subst hp
      rw [List.getElem?_append_right (Nat.le_refl _), Nat.sub_self] at h2
      rw [List.getElem?_append_right (by omega), hl, Nat.sub_self] at h4
      cases h2
      exact .inr ⟨h3, (Option.some.inj h4)⟩
  · rcases h with ⟨p', r', h1, h2, h3, h4⟩ | ⟨h3, h4⟩
    · exact ⟨p', r', by omega, by rw [List.getElem?_append_left h1]; exact h2, h3, by rw [List.getElem?_append_left (by omega)]; exact h4⟩
    · exact ⟨recs.length, r, Nat.lt_succ_self _, by rw [List.getElem?_append_right (Nat.le_refl _), Nat.sub_self]; rfl, h3, by rw [List.getElem?_append_right (by omega), hl, Nat.sub_self, h4]; rfl⟩
end Sd

/-! every step keeps the invariant -/
namespace Sd
theorem keep_eq2 (many i : Nat) (d : Deed) (n : Int) (h : HandM) : (h.keep many i d n).ended = h.ended ∧ (h.keep many i d n).ones = h.ones ∧ (h.keep many i d n).steps = h.steps := by
  unfold HandM.keep
  dsimp only
  split <;> exact ⟨rfl, rfl, rfl⟩
theorem done_took {h : HandM} {i now : Nat} {d : Deed} {o : Out} (hk : d ≠ .take) : (h.done i d now o).1.took = h.took := by
  unfold HandM.done
  cases d <;> first | rfl | exact absurd rfl hk
theorem done_non {h : HandM} {i now : Nat} {o : Out} (hm : o.mark = .non) : (h.done i .take now o).1.took = h.took := by
  unfold HandM.done
  dsimp only
  rw [hm]
theorem done_gift {h : HandM} {i now g k : Nat} {o : Out} (hm : o.mark = .gift g k) : (h.done i .take now o).1.took = h.took.set g (h.took.getD g 0 + 1) := by
  unfold HandM.done
  dsimp only
  rw [hm]
theorem done_len {h : HandM} {i now : Nat} {d : Deed} {o : Out} : (h.done i d now o).1.took.length = h.took.length := by
  by_cases hk : d = .take
  · subst hk
    cases hm : o.mark with
    | gift g k => rw [done_gift hm, List.length_set]
    | non => rw [done_non hm]
    | mom n =>
      unfold HandM.done
      dsimp only
      rw [hm]
  · rw [done_took hk]
theorem thing_zero {d : Deed} (hp : d.puts = true) (c : d ≠ .one) : ¬ 0 = d.thing := by
  cases d with
  | one => exact absurd rfl c
  | set g => show ¬ 0 = 1; decide
  | add g => show ¬ 0 = 2; decide
  | rais g => show ¬ 0 = 3; decide
  | give g => show ¬ 0 = 4; decide
  | count | look | sum | top | take => cases hp
theorem idx_inj {t t' j i m : Nat} (hj : j < m) (hi : i < m) (e : t * m + j = t' * m + i) : t = t' ∧ j = i := by
  have h0 : 0 < m := by omega
  have h1 := congrArg (· / m) e
  rw [Nat.add_comm (t * m), Nat.add_comm (t' * m), Nat.add_mul_div_right _ _ h0, Nat.add_mul_div_right _ _ h0, Nat.div_eq_of_lt hj, Nat.div_eq_of_lt hi] at h1
  have h2 : t = t' := by omega
  subst h2
  exact ⟨rfl, by omega⟩
theorem puts_chg {d : Deed} {r : Rec} (hr : r.deed = d) (hp : d.puts = true) (t : Nat) : isChg t r = decide (t = d.thing) := by
  unfold isChg
  rw [hr, hp, Bool.true_and]
  by_cases c : t = d.thing
  · rw [decide_eq_true c, c]
    exact beq_self_eq_true _
  · rw [decide_eq_false c]
    exact beq_eq_false_iff_ne.mpr (Ne.symm c)
theorem not_puts {d : Deed} (h : d.tells = true ∨ d = .take) : d.puts = false := by
  rcases h with h | rfl
  · cases d <;> first | rfl | cases h
  · rfl
section
variable {s : HallM} {G : Nat → List Chg} {i : Nat} {d : Deed} {h1 : HandM} {b : Nat} {kss : List (Nat → Nat)} {kr : Nat → Nat} {o : Out} {n : Int}
/-- what a put adds to its thing -/
theorem put_hist (H : Hists s.many G) (m0 : 0 < s.many) (hi : i < s.many) (B : Busy s.many G i d h1 b kss kr) (hones : h1.ones = (cnt (G 0) (G 0).length i : Nat)) (hp : d.puts = true) (ho : h1.out = some o) (hn : o.num = some n) (now : Nat) :
    o.ans = .non ∧ (∀ g, d = .give g → o.mark = .gift i (cnt (G 4) (G 4).length i)) ∧ ∃ stp : Int, (d.thing = 0 → OneHist s.many (G 0 ++ [⟨⟨i, d, h1.beg, now, o.ans⟩, n, stp⟩])) ∧
      (∀ t, 1 ≤ t → t ≤ 3 → d.thing = t → PicHist s.many (G t ++ [⟨⟨i, d, h1.beg, now, o.ans⟩, n, stp⟩])) ∧ (d.thing = 4 → LineHist s.many (G 4 ++ [⟨⟨i, d, h1.beg, now, o.ans⟩, n, stp⟩])) := by
  by_cases hpic : isPic d = true
  · have hth : 1 ≤ d.thing ∧ d.thing ≤ 3 := by cases d <;> first | exact (show 1 ≤ 1 ∧ 1 ≤ 3 by decide) | exact (show 1 ≤ 2 ∧ 2 ≤ 3 by decide) | exact (show 1 ≤ 3 ∧ 3 ≤ 3 by decide) | cases hpic
    obtain ⟨g1, n', g2, g3⟩ := pic_put H m0 hi hpic B ho (r := ⟨i, d, h1.beg, now, o.ans⟩) ⟨rfl, rfl⟩ (st := 0)
    rw [hn] at g2
    cases g2
    refine ⟨g1, (fun g e => by rw [e] at hpic; cases hpic), 0, fun z => by omega, fun t h1 h3 e => ?_, fun z => by omega⟩
    subst e
    exact .snoc (H.hp _ h1 h3) g3
  · cases d with
    | one =>
      have e := one_put rfl B
      rw [ho] at e
      cases e
      cases hn
      refine ⟨rfl, (fun g e => nomatch e), 0, fun _ => .snoc H.h0 hi ?_, fun t h1 h3 e => ?_, fun z => nomatch z⟩
      · show h1.ones + 1 = _
        rw [hones]
      · have : (0 : Nat) = t := e
        omega
    | give g =>
      obtain ⟨g1, g2, stp, g3, g4, g5, g6⟩ := give_put H m0 hi B ho
      rw [hn] at g3
      cases g3
      exact ⟨g1, fun _ _ => g2, stp, (fun z => nomatch z), (fun t h1 h3 e => by have : (4 : Nat) = t := e; omega), fun _ => .snoc H.h4 hi rfl g4 g5 g6⟩
    | set g => exact absurd rfl hpic
    | add g => exact absurd rfl hpic
    | rais g => exact absurd rfl hpic
    | count => cases hp
    | look => cases hp
    | sum => cases hp
    | top => cases hp
    | take => cases hp
end
theorem HallInv.stepped {s : HallM} {G : Nat → List Chg} (I : HallInv s G) {i : Nat} (hi : i < s.many) {s' : HallM} (es : s.stepped i = some s') : ∃ E : Nat → List Chg, HallInv s' fun t => G t ++ E t := by
  have m0 : 0 < s.many := by omega
  have H := I.hists
  unfold HallM.stepped at es
  cases e : (s.plan i)[(s.hand i).ended]? with
  | none => rw [e] at es; cases es
  | some d =>
    rw [e] at es
    dsimp only at es
    have es' : s' = s.put i ((s.hand i).step s.many i d s.boxes s.touches.length) := (Option.some.inj es).symm
    subst es'
    have hI := I.hand i hi
    have hd5 : d.thing < 5 := Nat.lt_succ_of_le d.thing_le
    obtain ⟨h1, b, kss, kr, eh, B, hb, hown, hnum, hsteps, htook, hones, hended⟩ := I.first hi e
    have est : (s.hand i).step s.many i d s.boxes s.touches.length = h1.act s.many i d s.boxes s.touches.length := by unfold HandM.step; rw [eh]
    rw [est]
    have hlt := (List.getElem?_eq_some_iff.mp e).1
    cases ho : h1.out with
    | some o =>
      have hsome := hnum o ho
      obtain ⟨n, hn⟩ := Option.isSome_iff_exists.mp hsome
      have ht : d.tells = false := by
        cases ht : d.tells with
        | false => rfl
        | true => rw [(tells_sound H m0 ht B ho).1] at hn; cases hn
      have hk : d ≠ .take := fun z => by
        subst z
        rw [(take_told H m0 B ho).1] at hn
        cases hn
      have hp := puts_of ht hk
      obtain ⟨ha, hmk, stp, q0, qp, q4⟩ := put_hist H m0 hi B (hones.trans hI.ones) hp ho hn s.touches.length
      rw [act_put ho]
      have hrd : h1.reading = [] := B.rdo (by rw [ho]; simp)
      generalize hr : (⟨i, d, h1.beg, s.touches.length, o.ans⟩ : Rec) = r at q0 qp q4
      have r1 : r.hand = i := by rw [← hr]
      have r2 : r.deed = d := by rw [← hr]
      have r3 : r.fin = s.touches.length := by rw [← hr]
      have r4 : r.beg = h1.beg := by rw [← hr]
      have r5 : r.ans = o.ans := by rw [← hr]
      have edone : (h1.done i d s.touches.length o).2 = (r, o.mark) := by rw [← hr]; rfl
      have etk : (h1.done i d s.touches.length o).1.took = h1.took := done_took hk
      have hEt : ∀ t, (if t = d.thing then [(⟨r, n, stp⟩ : Chg)] else []) = if t = d.thing then [⟨r, n, stp⟩] else [] := fun _ => rfl
      refine ⟨fun t => if t = d.thing then [⟨r, n, stp⟩] else [], I.next1 hi e (r := r) (mk := o.mark) (by rw [edone]) ⟨r1, r2, r3, by rw [r4]; exact hb⟩ (by rw [r4]; exact hown) (fun t c hc => ?_) (fun t => ?_) ?_ ?_ ?_ ?_ ?_ ?_ ?_ ?_ rfl hrd ?_ ?_ ?_⟩
      · split at hc
        · rw [List.mem_singleton.mp hc]
        · cases hc
      · rw [puts_chg r2 hp]
        by_cases c : t = d.thing
        · rw [if_pos c, if_pos (decide_eq_true c)]
          rfl
        · rw [if_neg c, if_neg (by rw [decide_eq_false c]; exact Bool.false_ne_true)]
          rfl
      · by_cases c : 0 = d.thing
        · rw [if_pos c]; exact q0 c.symm
        · rw [if_neg c, List.append_nil]; exact H.h0
      · intro t h1 h3
        by_cases c : t = d.thing
        · rw [if_pos c]; exact qp t h1 h3 c.symm
        · rw [if_neg c, List.append_nil]; exact H.hp t h1 h3
      · by_cases c : 4 = d.thing
        · rw [if_pos c]; exact q4 c.symm
        · rw [if_neg c, List.append_nil]; exact H.h4
      · show (s.boxes.set _ _).length = _
        rw [List.length_set]
        exact I.bl
      · intro t j ht5 hj
        show (s.boxes.set (d.thing * s.many + i) (o.num.getD 0)).getD (t * s.many + j) 0 = _
        rw [hn]
        by_cases c : t = d.thing ∧ j = i
        · obtain ⟨rfl, rfl⟩ := c
          have hbd : d.thing * s.many + j < s.boxes.length := by
            rw [I.bl]
            have : d.thing * s.many ≤ 4 * s.many := Nat.mul_le_mul_right _ (by omega)
            omega
          rw [if_pos rfl, List.getD_eq_getElem?_getD, List.getElem?_set_self hbd]
          have := raw_self (C := G d.thing) (c := ⟨r, n, stp⟩)
          rw [show (⟨r, n, stp⟩ : Chg).r.hand = j from r1] at this
          exact this.symm
        · have hne : d.thing * s.many + i ≠ t * s.many + j := fun z => by
            obtain ⟨z1, z2⟩ := idx_inj hi hj z
            exact c ⟨z1.symm, z2.symm⟩
          rw [List.getD_eq_getElem?_getD, List.getElem?_set_ne hne, ← List.getD_eq_getElem?_getD, I.box t j ht5 hj]
          by_cases c2 : t = d.thing
          · rw [if_pos c2]
            refine (raw_other fun c' hc' => ?_).symm
            rw [List.mem_singleton.mp hc']
            show r.hand ≠ j
            rw [r1]
            exact fun z => c ⟨c2, z.symm⟩
          · rw [if_neg c2, List.append_nil]
      · show h1.ended + 1 = _
        rw [hended]
      · rw [etk, htook]
        exact hI.took
      · show (if d = .one then h1.ones + 1 else h1.ones) = _
        rw [hones, hI.ones]
        by_cases c : d = .one
        · subst c
          rw [if_pos rfl, if_pos (show 0 = Deed.one.thing from rfl)]
          have ho := own_snoc (C := G 0) (c := ⟨r, n, stp⟩) i
          rw [if_pos r1] at ho
          unfold cnt
          rw [List.length_append]
          show _ = (((own (G 0 ++ [_]) ((G 0).length + 1) i).length : Nat) : Int)
          rw [ho, List.length_append]
          rfl
        · rw [if_neg c, if_neg (thing_zero hp c), List.append_nil]
      · show h1.readings.length ≤ 5
        exact Nat.le_trans (busy_len H hi B) (rdMost_le I.m4)
      · refine ⟨fun _ => by rw [r5]; exact ha, fun g hg => ?_, (fun z => by rw [r2, ht] at z; cases z), fun z => absurd (r2.symm.trans z) hk⟩
        have hdg : d = .give g := r2.symm.trans hg
        subst hdg
        refine ⟨(G 4).length, ⟨r, n, stp⟩, ?_, rfl, ?_⟩
        · show (G 4 ++ if 4 = (Deed.give g).thing then _ else _)[(G 4).length]? = _
          rw [if_pos (show 4 = (Deed.give g).thing from rfl), List.getElem?_append_right (Nat.le_refl _), Nat.sub_self]
          rfl
        · show o.mark = Mark.gift r.hand (cnt (G 4 ++ if 4 = (Deed.give g).thing then _ else _) (G 4).length r.hand)
          rw [cnt_app (Nat.le_refl _), r1]
          exact hmk g rfl
      · intro x k
        rw [ToldBy.last I.ml, I.told x k]
        have : (if 0 = i then (h1.done i d s.touches.length o).1 else s.hand 0).took = (s.hand 0).took := by
          by_cases c : 0 = i
          · subst c
            rw [if_pos rfl, etk, htook]
          · rw [if_neg c]
        show _ ↔ k < (if 0 = i then (h1.done i d s.touches.length o).1 else s.hand 0).took.getD x 0
        rw [this]
        exact ⟨fun z => z.elim id fun z => absurd (r2.symm.trans z.1) hk, .inl⟩
    | none =>
      have epl : s.boxes.getD (h1.place s.many d) 0 = raw (G d.thing) (G d.thing).length h1.reading.length := I.box d.thing h1.reading.length hd5 B.lt
      obtain ⟨kss', kr', B2, hcount⟩ := keep_busy B ho
      obtain ⟨k1, k2, k3⟩ := keep_eq2 s.many i d (raw (G d.thing) (G d.thing).length h1.reading.length) h1
      obtain ⟨k4, k5⟩ := keep_eq s.many i d (raw (G d.thing) (G d.thing).length h1.reading.length) h1
      generalize hk2 : h1.keep s.many i d (raw (G d.thing) (G d.thing).length h1.reading.length) = h2 at B2 hcount k1 k2 k3 k4 k5
      have hk2' : h1.keep s.many i d (s.boxes.getD (h1.place s.many d) 0) = h2 := by rw [epl]; exact hk2
      have hrl := Nat.le_trans (busy_len H hi B2) (rdMost_le I.m4)
      have hs2 : h2.steps ≠ 0 := by rw [k3, hsteps]; exact Nat.succ_ne_zero _
      have ez : (fun t => G t ++ (fun _ => ([] : List Chg)) t) = G := funext fun t => List.append_nil _
      by_cases c : ∃ o, h2.out = some o ∧ o.num = none
      · obtain ⟨o, c1, c2⟩ := c
        rw [act_take1 ho hk2' c1 c2]
        have hrd : h2.reading = [] := B2.rdo (by rw [c1]; simp)
        generalize hr : (⟨i, d, h2.beg, s.touches.length, o.ans⟩ : Rec) = r
        have r1 : r.hand = i := by rw [← hr]
        have r2 : r.deed = d := by rw [← hr]
        have r3 : r.fin = s.touches.length := by rw [← hr]
        have r4 : r.beg = h2.beg := by rw [← hr]
        have r5 : r.ans = o.ans := by rw [← hr]
        have edone : (h2.done i d s.touches.length o).2 = (r, o.mark) := by rw [← hr]; rfl
        have htt : d.tells = true ∨ d = .take := by
          by_cases z : d = .take
          · exact .inr z
          · cases ht : d.tells with
            | true => exact .inl rfl
            | false =>
              have hp := puts_of ht z
              have e2 := B2.out
              rw [c1] at e2
              exfalso
              cases d with
              | one => cases e2; cases c2
              | give g =>
                obtain ⟨_, _, stp, g3, _⟩ := give_put H m0 hi B2 c1
                rw [c2] at g3; cases g3
              | set g =>
                obtain ⟨_, n', g2, _⟩ := pic_put H m0 hi (d := .set g) rfl B2 c1 (r := r) ⟨r1, r2⟩ (st := 0)
                rw [c2] at g2; cases g2
              | add g =>
                obtain ⟨_, n', g2, _⟩ := pic_put H m0 hi (d := .add g) rfl B2 c1 (r := r) ⟨r1, r2⟩ (st := 0)
                rw [c2] at g2; cases g2
              | rais g =>
                obtain ⟨_, n', g2, _⟩ := pic_put H m0 hi (d := .rais g) rfl B2 c1 (r := r) ⟨r1, r2⟩ (st := 0)
                rw [c2] at g2; cases g2
              | count => cases hp
              | look => cases hp
              | sum => cases hp
              | top => cases hp
              | take => cases hp
        have hnp := not_puts htt
        have hne1 : d ≠ .one := fun z => by rw [z] at hnp; cases hnp
        have hbeg : r.beg ≤ s.touches.length := by rw [r4, k5]; exact hb
        have key := I.next1 hi e (st := ⟨(h2.done i d s.touches.length o).1, s.boxes, ⟨i, false, h1.place s.many d, s.boxes.getD (h1.place s.many d) 0⟩, some (h2.done i d s.touches.length o).2⟩) (r := r) (mk := o.mark) (E := fun _ => []) (by rw [edone]) ⟨r1, r2, r3, hbeg⟩ (by rw [r4, k5]; exact hown) (fun t c hc => nomatch hc) (fun t => by
            have : isChg t r = false := by unfold isChg; rw [r2, hnp]; rfl
            rw [this]; rfl)
        simp only [List.append_nil] at key
        refine ⟨fun _ => [], ?_⟩
        simp only [List.append_nil]
        refine key H.h0 H.hp H.h4 I.bl I.box ?_ ?_ ?_ rfl hrd hrl ?_ ?_
        · show h2.ended + 1 = _
          rw [k1, hended]
        · show (h2.done i d s.touches.length o).1.took.length = _
          rw [done_len, k4, htook]
          exact hI.took
        · show (if d = .one then h2.ones + 1 else h2.ones) = _
          rw [if_neg hne1, k2, hones]
          exact hI.ones
        · refine ⟨(fun z => by rw [r2, hnp] at z; cases z), fun g hg => ?_, fun z => ?_, fun z => ?_⟩
          · have hdg : d = .give g := r2.symm.trans hg
            rw [hdg] at hnp
            cases hnp
          · rw [r2] at z
            obtain ⟨_, K, g1, g2, g3, g4⟩ := tells_sound H m0 z B2 c1
            rw [r2]
            refine ⟨K, g2, g3, by rw [r5]; exact g4, fun q c hq _ => ?_, fun q c hq hK => ?_⟩
            · have h2 : c.r ∈ (G d.thing).map (·.r) := List.mem_map_of_mem (List.mem_of_getElem? hq)
              rw [I.erec] at h2
              rw [r3]
              exact I.time.lt _ (List.mem_filter.mp h2).1
            · rw [r4]
              exact B2.b2 q c hq (by omega)
          · have hdt : d = .take := r2.symm.trans z
            subst hdt
            have hi0 : i = 0 := (I.plans i _ (List.mem_of_getElem? e)).2 rfl
            subst hi0
            have tk : h2.took = (s.hand 0).took := k4.trans htook
            have told : ∀ x k, k < h2.took.getD x 0 → ToldBy (s.recs ++ [r]) (s.marks ++ [o.mark]) s.recs.length x k := fun x k hk => (ToldBy.app I.ml (Nat.le_refl _)).mpr ((I.told x k).mpr (by rw [← tk]; exact hk))
            rcases (take_told H m0 B2 c1).2 with ⟨g1, g2, g3⟩ | ⟨q, c, g1, g2, g3, g4, g5⟩
            · exact .inl ⟨g1, by rw [r5]; exact g2, fun q c hq hf => told _ _ (g3 q c hq (by rw [← r4]; exact hf))⟩
            · refine .inr ⟨q, c, g1, g3, by rw [r5]; exact g4, ?_, fun z => ?_, fun q' c' hq' hf' => told _ _ (g5 q' c' hq' hf')⟩
              · have h2 : c.r ∈ (G 4).map (·.r) := List.mem_map_of_mem (List.mem_of_getElem? g1)
                rw [I.erec] at h2
                rw [r3]
                exact I.time.lt _ (List.mem_filter.mp h2).1
              · have := (I.told _ _).mp ((ToldBy.app I.ml (Nat.le_refl _)).mp z)
                rw [g2, tk] at this
                exact absurd this (Nat.lt_irrefl _)
        · intro x k
          rw [ToldBy.last I.ml, I.told x k]
          show _ ↔ k < (if 0 = i then (h2.done i d s.touches.length o).1 else s.hand 0).took.getD x 0
          by_cases cd : d = .take
          · subst cd
            have hi0 : i = 0 := (I.plans i _ (List.mem_of_getElem? e)).2 rfl
            subst hi0
            have tk : h2.took = (s.hand 0).took := k4.trans htook
            rw [if_pos rfl]
            rcases (take_told H m0 B2 c1).2 with ⟨g1, g2, g3⟩ | ⟨q, c, g1, g2, g3, g4, g5⟩
            · have e1 : (h2.done 0 .take s.touches.length o).1.took = h2.took := done_non g1
              rw [e1, tk, g1]
              exact ⟨fun z => z.elim id fun z => (nomatch z.2), .inl⟩
            · have e1 : (h2.done 0 .take s.touches.length o).1.took = h2.took.set c.r.hand (h2.took.getD c.r.hand 0 + 1) := done_gift g3
              have hcm : c.r.hand < h2.took.length := by
                rw [tk, hI.took]
                exact H.h4.hands c (List.mem_of_getElem? g1)
              rw [e1, g3, tk] 
              rw [tk] at hcm g2
              by_cases cx : x = c.r.hand
              · subst cx
                rw [List.getD_eq_getElem?_getD (l := List.set _ _ _), List.getElem?_set_self hcm]
                show _ ↔ k < (s.hand 0).took.getD c.r.hand 0 + 1
                refine ⟨fun z => ?_, fun z => ?_⟩
                · rcases z with z | ⟨_, z⟩
                  · omega
                  · injection z with _ z2
                    omega
                · by_cases ck : k < (s.hand 0).took.getD c.r.hand 0
                  · exact .inl ck
                  · refine .inr ⟨r2, ?_⟩
                    congr 1
                    omega
              · rw [List.getD_eq_getElem?_getD (l := List.set _ _ _), List.getElem?_set_ne (Ne.symm cx), ← List.getD_eq_getElem?_getD]
                refine ⟨fun z => ?_, .inl⟩
                rcases z with z | ⟨_, z⟩
                · exact z
                · injection z with z1 _
                  exact absurd z1.symm cx
          · have e1 : (h2.done i d s.touches.length o).1.took = h2.took := done_took cd
            have : (if 0 = i then (h2.done i d s.touches.length o).1 else s.hand 0).took = (s.hand 0).took := by
              by_cases c0 : 0 = i
              · subst c0
                rw [if_pos rfl, e1, k4, htook]
              · rw [if_neg c0]
            rw [this]
            exact ⟨fun z => z.elim id fun z => absurd (r2.symm.trans z.1) cd, .inl⟩
      · have hc : h2.out = none ∨ ∃ o, h2.out = some o ∧ o.num.isSome = true := by
          cases hh : h2.out with
          | none => exact .inl rfl
          | some o =>
            cases hn : o.num with
            | none => exact absurd ⟨o, hh, hn⟩ c
            | some n => exact .inr ⟨o, rfl, by rw [hn]; rfl⟩
        rw [act_take0 ho hk2' hc]
        refine ⟨fun _ => [], ?_⟩
        simp only [List.append_nil]
        refine I.next0 hi rfl rfl ?_ (k4.trans htook) (k1.trans hended)
        refine ⟨by rw [k1, hended]; exact hI.le, by rw [k4, htook]; exact hI.took, by rw [k2, hones]; exact hI.ones, fun z => absurd z hs2, hrl, by rw [k1, hended]; exact hI.done, fun _ d' e' => ?_⟩
        rw [k1, hended, e] at e'
        cases e'
        refine ⟨⟨b, kss', kr', B2⟩, by rw [k5]; omega, by rw [k5]; exact hown, fun o ho' => ?_, by rw [k3, hsteps, hcount]⟩
        rcases hc with hc | ⟨o', hc, hn⟩
        · rw [hc] at ho'; cases ho'
        · rw [hc] at ho'; cases ho'; exact hn
end Sd

/-! the beginning; rows of steps -/
namespace Sd
structure PlansOk (plans : List (List Deed)) : Prop where
  m1 : 1 ≤ plans.length
  m4 : plans.length ≤ 4
  ok : ∀ i d, d ∈ plans.getD i [] → d.ok ∧ (d = .take → i = 0)
  len : ∀ i, (plans.getD i []).length ≤ 40
theorem HallInv.new {plans : List (List Deed)} (h : PlansOk plans) : HallInv (HallM.new plans) fun _ => [] := by
  have hhand : ∀ i, i < plans.length → (HallM.new plans).hand i = HandM.new plans.length := fun i hi => by
    show (List.replicate plans.length (HandM.new plans.length)).getD i _ = _
    rw [List.getD_eq_getElem?_getD, List.getElem?_replicate_of_lt hi]
    rfl
  refine ⟨h.m1, h.m4, h.ok, h.len, List.length_replicate, List.length_replicate, fun i hi => ?_, fun t j ht hj => ?_, .nil, fun _ _ _ => .nil, .nil, fun _ => rfl, (fun _ h => nomatch h), ⟨.nil, (fun _ h => nomatch h), (fun _ h => nomatch h), .nil⟩, rfl, (fun p r mk e => nomatch e), fun x k => ?_, ?_⟩
  · have hi' : i < plans.length := hi
    rw [hhand i hi']
    exact ⟨Nat.zero_le _, List.length_replicate, rfl, fun _ => rfl, Nat.zero_le _, rfl, fun z => absurd rfl z⟩
  · show (List.replicate (5 * plans.length) (0 : Int)).getD _ 0 = 0
    rw [List.getD_eq_getElem?_getD]
    by_cases c : t * (HallM.new plans).many + j < 5 * plans.length
    · rw [List.getElem?_replicate_of_lt c]
      rfl
    · rw [List.getElem?_eq_none (by rw [List.length_replicate]; omega)]
      rfl
  · rw [hhand 0 h.m1]
    show _ ↔ k < (List.replicate plans.length 0).getD x 0
    have : (List.replicate plans.length 0).getD x 0 = 0 := by
      rw [List.getD_eq_getElem?_getD]
      by_cases c : x < plans.length
      · rw [List.getElem?_replicate_of_lt c]; rfl
      · rw [List.getElem?_eq_none (by rw [List.length_replicate]; omega)]; rfl
    rw [this]
    exact ⟨fun ⟨_, _, h1, _⟩ => absurd h1 (Nat.not_lt_zero _), fun z => absurd z (Nat.not_lt_zero _)⟩
  · show sumH plans.length _ = 0
    rw [sumH_congr (g := fun _ => 0) fun j hj => by rw [hhand j hj]; rfl]
    exact sumH_zero _
theorem HallInv.ok {s : HallM} {G : Nat → List Chg} (I : HallInv s G) (hn : s.touches.length < 1000000) : StepOk s := by
  have hl := I.len
  exact ⟨I.hl, fun i hi d e => I.pre hi e, fun i hi => (I.hand i hi).le, hn, by omega, by rw [I.ml]; omega⟩
/-- a state that some steps lead to -/
def Fine (s : HallM) : Prop := ∃ G, HallInv s G
theorem Fine.step {s : HallM} (h : Fine s) {i : Nat} (hi : i < s.many) : Fine (s.step i) := by
  obtain ⟨G, I⟩ := h
  unfold HallM.step
  cases e : s.stepped i with
  | none => exact ⟨G, I⟩
  | some s' =>
    obtain ⟨E, I'⟩ := I.stepped hi e
    exact ⟨_, I'⟩
theorem Fine.weave {s : HallM} (h : Fine s) : ∀ {row : List Nat}, (∀ i ∈ row, i < s.many) → Fine (s.weave row)
  | [], _ => h
  | i :: row, hr => by
    have h1 := h.step (hr i List.mem_cons_self)
    show Fine ((s.step i).weave row)
    exact Fine.weave h1 fun j hj => by rw [step_many]; exact hr j (List.mem_cons_of_mem _ hj)
theorem step_touches (s : HallM) (i : Nat) : (s.step i).touches.length ≤ s.touches.length + 1 := by
  unfold HallM.step
  cases e : s.stepped i with
  | none => exact Nat.le_succ _
  | some s' =>
    unfold HallM.stepped at e
    split at e
    · cases e
    · cases e
      show (s.touches ++ [_]).length ≤ _
      rw [List.length_append]
      exact Nat.le_refl _
theorem weave_touches (s : HallM) : ∀ row : List Nat, (s.weave row).touches.length ≤ s.touches.length + row.length
  | [] => Nat.le_refl _
  | i :: row => by
    have h1 := weave_touches (s.step i) row
    have h2 := step_touches s i
    show ((s.step i).weave row).touches.length ≤ _
    rw [List.length_cons]
    omega
theorem Fine.ok {s : HallM} (h : Fine s) (hn : s.touches.length < 1000000) : StepOk s := by
  obtain ⟨G, I⟩ := h
  exact I.ok hn
theorem Fine.pre {s : HallM} (h : Fine s) {row : List Nat} (hr : ∀ i ∈ row, i < s.many) (hn : s.touches.length + row.length < 1000000) : ∀ k, k ≤ row.length → StepOk (s.weave (row.take k)) := fun k hk => by
  refine (h.weave fun i hi => hr i (List.mem_of_mem_take hi)).ok ?_
  have := weave_touches s (row.take k)
  rw [List.length_take] at this
  omega
end Sd

/-! the order of what ended: keys, and which gift was told when -/
namespace Sd
abbrev Key := Nat × Nat × Nat
def klt (a b : Key) : Bool := decide (a.1 < b.1 ∨ (a.1 = b.1 ∧ (a.2.1 < b.2.1 ∨ (a.2.1 = b.2.1 ∧ a.2.2 < b.2.2))))
theorem klt_iff {a b : Key} : klt a b = true ↔ (a.1 < b.1 ∨ (a.1 = b.1 ∧ (a.2.1 < b.2.1 ∨ (a.2.1 = b.2.1 ∧ a.2.2 < b.2.2)))) := decide_eq_true_iff
theorem klt_irr (a : Key) : klt a a = false := by
  cases h : klt a a with
  | false => rfl
  | true => have := klt_iff.mp h; omega
theorem klt_no {a b : Key} (h : klt a b = true) : klt b a = false := by
  cases h2 : klt b a with
  | false => rfl
  | true => have := klt_iff.mp h; have := klt_iff.mp h2; omega
theorem klt_tri {a b : Key} (h : klt b a = false) : klt a b = true ∨ a = b := by
  by_cases c : klt a b = true
  · exact .inl c
  · refine .inr ?_
    have h1 : ¬ klt b a = true := by rw [h]; exact Bool.false_ne_true
    rw [klt_iff] at h1 c
    have e1 : a.1 = b.1 := by omega
    have e2 : a.2.1 = b.2.1 := by omega
    have e3 : a.2.2 = b.2.2 := by omega
    exact Prod.ext e1 (Prod.ext e2 e3)
theorem split_lt {ks pre post : List Key} {x : Key} (hs : ks.Pairwise fun a b => klt a b = true) (e : ks = pre ++ x :: post) : pre = ks.filter fun y => klt y x := by
  subst e
  obtain ⟨_, h2, h3⟩ := List.pairwise_append.mp hs
  rw [List.filter_append, List.filter_cons_of_neg (by rw [klt_irr]; exact Bool.false_ne_true)]
  have e1 : pre.filter (fun y => klt y x) = pre := List.filter_eq_self.mpr fun a ha => h3 a ha x List.mem_cons_self
  have e2 : post.filter (fun y => klt y x) = [] := List.filter_eq_nil_iff.mpr fun a ha => by
    rw [klt_no ((List.pairwise_cons.mp h2).1 a ha)]
    exact Bool.false_ne_true
  rw [e1, e2, List.append_nil]
theorem filter_take {A : Type} {P : A → Bool} : ∀ {C : List A} {K : Nat}, (∀ q a, C[q]? = some a → (P a = true ↔ q < K)) → C.filter P = C.take K
  | [], K, _ => by rw [List.filter_nil, List.take_nil]
  | a :: C, 0, h => by
    rw [List.take_zero]
    refine List.filter_eq_nil_iff.mpr fun b hb hp => ?_
    obtain ⟨q, hq⟩ := List.getElem?_of_mem hb
    exact absurd ((h q b hq).mp hp) (Nat.not_lt_zero _)
  | a :: C, K + 1, h => by
    rw [List.filter_cons_of_pos ((h 0 a rfl).mpr (Nat.succ_pos _)), List.take_succ_cons, filter_take (C := C) (K := K) fun q b hq => (h (q + 1) b hq).trans (Nat.succ_lt_succ_iff)]
theorem sorted_same {a b : List Key} (hp : a.Perm b) (ha : a.Pairwise fun x y => klt x y = true) (hb : b.Pairwise fun x y => klt x y = true) : a = b :=
  hp.eq_of_pairwise (le := fun x y => klt x y = true) (fun x y _ _ h1 h2 => by rw [klt_no h1] at h2; cases h2) ha hb
theorem nodup_at {A : Type} {l : List A} (h : l.Nodup) {i j : Nat} {a : A} (hi : l[i]? = some a) (hj : l[j]? = some a) : i = j := by
  obtain ⟨h1, e1⟩ := List.getElem?_eq_some_iff.mp hi
  obtain ⟨h2, e2⟩ := List.getElem?_eq_some_iff.mp hj
  have hp := List.pairwise_iff_getElem.mp h
  rcases Nat.lt_trichotomy i j with c | c | c
  · exact absurd (e1.trans e2.symm) (hp i j h1 h2 c)
  · exact c
  · exact absurd (e2.trans e1.symm) (hp j i h2 h1 c)
theorem filterMap_if {A B : Type} {f : A → Option B} {P : A → Bool} {g : A → B} : ∀ {l : List A}, (∀ a ∈ l, f a = if P a = true then some (g a) else none) → l.filterMap f = (l.filter P).map g
  | [], _ => rfl
  | a :: l, h => by
    have ih := filterMap_if (l := l) fun b hb => h b (List.mem_cons_of_mem _ hb)
    have h1 := h a List.mem_cons_self
    rw [List.filterMap_cons, h1]
    by_cases c : P a = true
    · rw [if_pos c, List.filter_cons_of_pos c, List.map_cons, ih]
    · rw [if_neg c, List.filter_cons_of_neg c, ih]
def isGv : Deed → Bool
  | .give _ => true
  | _ => false
def isTk : Deed → Bool
  | .take => true
  | _ => false
theorem isTk_iff {d : Deed} : isTk d = true ↔ d = .take := by
  cases d <;> first | exact ⟨fun _ => rfl, fun _ => rfl⟩ | exact ⟨(fun h => nomatch h), (fun h => nomatch h)⟩
section
variable (n : Nat) (R : Nat → Rec) (M : Nat → Mark)
def giver (p : Nat) : Option Nat := if (isTk (R p).deed && decide (M p ≠ .non)) = true then (List.range n).find? (fun g => isGv (R g).deed && decide (M g = M p)) else none
def told : List Nat := (List.range n).filterMap (giver n R M)
def rest : List Nat := (List.range n).filter fun g => isGv (R g).deed && !decide (g ∈ told n R M)
def seqM : List Nat := told n R M ++ rest n R M
def sfx (fin : Nat → Nat) : Nat → List Nat → List Key
  | _, [] => []
  | r, p :: l => ((match sfx fin (r + 1) l with | [] => fin p | k :: _ => if k.1 < fin p then k.1 else fin p), r, p) :: sfx fin (r + 1) l
def takeKey (p : Nat) : Key := (if M p = .non then (R p).beg else (R p).fin, 0, p)
def takeKeys : List Key := ((List.range n).filter fun p => isTk (R p).deed).map (takeKey R M)
def changes (t p : Nat) : List Nat := ((List.range p).filter fun q => isChg t (R q)).map fun q => (R q).fin
def moment (p : Nat) : Nat := match M p with
  | .mom K => if K = 0 then (R p).beg else if (changes R (R p).deed.thing p).getD (K.toNat - 1) 0 > (R p).beg then (changes R (R p).deed.thing p).getD (K.toNat - 1) 0 else (R p).beg
  | _ => 0
def otherKey (p : Nat) : Key := if (R p).deed.tells = true then (moment R M p, 1, p) else ((R p).fin, 0, p)
def others : List Key := ((List.range n).filter fun p => decide ((R p).deed.thing ≠ 4)).map (otherKey R M)
def keysM : List Key := takeKeys n R M ++ (sfx (fun p => (R p).fin) 0 (seqM n R M)).reverse ++ others n R M
def ttM : List Nat := (List.range n).filter fun p => isTk (R p).deed && decide (M p ≠ .non)
structure LF : Prop where
  ends : ∀ p p', p < p' → p' < n → (R p).fin < (R p').fin
  beg : ∀ p, p < n → (R p).beg ≤ (R p).fin
  seq : ∀ p p', p < p' → p' < n → isTk (R p).deed = true → isTk (R p').deed = true → (R p).fin < (R p').beg
  uniq : ∀ p p', p < n → p' < n → isGv (R p).deed = true → isGv (R p').deed = true → M p = M p' → p = p'
  gmark : ∀ p, p < n → isGv (R p).deed = true → M p ≠ .non
  gift : ∀ p, p < n → isTk (R p).deed = true → M p ≠ .non → ∃ g, g < n ∧ isGv (R g).deed = true ∧ M g = M p ∧ (R p).ans = .int (giftOf (R g).deed) ∧ (R g).fin < (R p).fin ∧
    (∀ p', p' < p → isTk (R p').deed = true → M p' ≠ M p) ∧ ∀ g', g' < n → isGv (R g').deed = true → (R g').fin < (R g).beg → ∃ p', p' < p ∧ isTk (R p').deed = true ∧ M p' = M g'
  none : ∀ p, p < n → isTk (R p).deed = true → M p = .non → (R p).ans = .non ∧ ∀ g', g' < n → isGv (R g').deed = true → (R g').fin ≤ (R p).beg → ∃ p', p' < p ∧ isTk (R p').deed = true ∧ M p' = M g'
end
section
variable {n : Nat} {R : Nat → Rec} {M : Nat → Mark}
theorem mem_tt {p : Nat} : p ∈ ttM n R M ↔ p < n ∧ isTk (R p).deed = true ∧ M p ≠ .non := by
  unfold ttM
  rw [List.mem_filter, List.mem_range, Bool.and_eq_true, decide_eq_true_iff]
theorem tt_lt {i j p q : Nat} (hi : (ttM n R M)[i]? = some p) (hj : (ttM n R M)[j]? = some q) (h : i < j) : p < q := by
  have hp : (ttM n R M).Pairwise (· < ·) := List.Pairwise.filter _ List.pairwise_lt_range
  obtain ⟨h1, e1⟩ := List.getElem?_eq_some_iff.mp hi
  obtain ⟨h2, e2⟩ := List.getElem?_eq_some_iff.mp hj
  rw [← e1, ← e2]
  exact List.pairwise_iff_getElem.mp hp i j h1 h2 h
/-- the give that a take told -/
theorem giver_eq (L : LF n R M) {p g : Nat} (hp : p ∈ ttM n R M) (hg : g < n) (h1 : isGv (R g).deed = true) (h2 : M g = M p) : giver n R M p = some g := by
  obtain ⟨q1, q2, q3⟩ := mem_tt.mp hp
  unfold giver
  rw [if_pos (by rw [q2, decide_eq_true q3]; rfl)]
  cases e : (List.range n).find? (fun g => isGv (R g).deed && decide (M g = M p)) with
  | none =>
    have := List.find?_eq_none.mp e g (List.mem_range.mpr hg)
    rw [h1, decide_eq_true h2] at this
    exact absurd rfl this
  | some g' =>
    have h3 := List.find?_some e
    have h4 := List.mem_range.mp (List.mem_of_find?_eq_some e)
    rw [Bool.and_eq_true, decide_eq_true_iff] at h3
    rw [L.uniq g' g h4 hg h3.1 h1 (h3.2.trans h2.symm)]
def gv (n : Nat) (R : Nat → Rec) (M : Nat → Mark) (p : Nat) : Nat := (giver n R M p).getD 0
/-- all that is known of the give that a take told -/
theorem gv_of (L : LF n R M) {p : Nat} (hp : p ∈ ttM n R M) : giver n R M p = some (gv n R M p) ∧ gv n R M p < n ∧ isGv (R (gv n R M p)).deed = true ∧ M (gv n R M p) = M p ∧ (R p).ans = .int (giftOf (R (gv n R M p)).deed) ∧ (R (gv n R M p)).fin < (R p).fin ∧
    (∀ p', p' < p → isTk (R p').deed = true → M p' ≠ M p) ∧ ∀ g', g' < n → isGv (R g').deed = true → (R g').fin < (R (gv n R M p)).beg → ∃ p', p' < p ∧ isTk (R p').deed = true ∧ M p' = M g' := by
  obtain ⟨q1, q2, q3⟩ := mem_tt.mp hp
  obtain ⟨g, h1, h2, h3, h4⟩ := L.gift p q1 q2 q3
  have e := giver_eq L hp h1 h2 h3
  have e2 : gv n R M p = g := by unfold gv; rw [e]; rfl
  rw [e2]
  exact ⟨e, h1, h2, h3, h4⟩
theorem told_map (L : LF n R M) : told n R M = (ttM n R M).map (gv n R M) := by
  unfold told ttM
  refine filterMap_if fun p hp => ?_
  by_cases c : (isTk (R p).deed && decide (M p ≠ .non)) = true
  · rw [if_pos c]
    rw [Bool.and_eq_true, decide_eq_true_iff] at c
    exact (gv_of L (mem_tt.mpr ⟨List.mem_range.mp hp, c.1, c.2⟩)).1
  · rw [if_neg c]
    unfold giver
    rw [if_neg c]
theorem told_at (L : LF n R M) {k : Nat} : (told n R M)[k]? = ((ttM n R M)[k]?).map (gv n R M) := by rw [told_map L, List.getElem?_map]
theorem told_len (L : LF n R M) : (told n R M).length = (ttM n R M).length := by rw [told_map L, List.length_map]
theorem told_nodup (L : LF n R M) : (told n R M).Nodup := by
  refine List.pairwise_iff_getElem.mpr fun i j hi hj hij e => ?_
  have e1 := List.getElem?_eq_getElem hi
  have e2 := List.getElem?_eq_getElem hj
  rw [told_at L] at e1 e2
  obtain ⟨p, h1, h2⟩ := Option.map_eq_some_iff.mp e1
  obtain ⟨q, h3, h4⟩ := Option.map_eq_some_iff.mp e2
  have hp := gv_of L (List.mem_of_getElem? h1)
  have hq := gv_of L (List.mem_of_getElem? h3)
  have hlt := tt_lt h1 h3 hij
  refine hq.2.2.2.2.2.2.1 p hlt (mem_tt.mp (List.mem_of_getElem? h1)).2.1 ?_
  rw [← hp.2.2.2.1, ← hq.2.2.2.1, h2, h4, e]
theorem mem_told (L : LF n R M) {g : Nat} (h : g ∈ told n R M) : g < n ∧ isGv (R g).deed = true := by
  rw [told_map L] at h
  obtain ⟨p, hp, rfl⟩ := List.mem_map.mp h
  have := gv_of L hp
  exact ⟨this.2.1, this.2.2.1⟩
/-- a give whose mark some take bears was told -/
theorem told_of (L : LF n R M) {p g : Nat} (hp : p < n) (ht : isTk (R p).deed = true) (hg : g < n) (h1 : isGv (R g).deed = true) (e : M p = M g) : ∃ k : Nat, (ttM n R M)[k]? = some p ∧ (told n R M)[k]? = some g := by
  have hm : p ∈ ttM n R M := mem_tt.mpr ⟨hp, ht, by rw [e]; exact L.gmark g hg h1⟩
  obtain ⟨k, hk⟩ := List.getElem?_of_mem hm
  refine ⟨k, hk, ?_⟩
  rw [told_at L, hk]
  show some ((giver n R M p).getD 0) = _
  rw [giver_eq L hm hg h1 e.symm]
  rfl
theorem mem_rest {g : Nat} : g ∈ rest n R M ↔ g < n ∧ isGv (R g).deed = true ∧ g ∉ told n R M := by
  unfold rest
  rw [List.mem_filter, List.mem_range, Bool.and_eq_true, Bool.not_eq_true', decide_eq_false_iff_not]
theorem rest_sorted : (rest n R M).Pairwise (· < ·) := List.Pairwise.filter _ List.pairwise_lt_range
theorem seq_nodup (L : LF n R M) : (seqM n R M).Nodup := by
  refine List.nodup_append.mpr ⟨told_nodup L, (rest_sorted.imp fun h => Nat.ne_of_lt h), fun a ha b hb e => ?_⟩
  subst e
  exact (mem_rest.mp hb).2.2 ha
theorem mem_seq (L : LF n R M) {g : Nat} : g ∈ seqM n R M ↔ g < n ∧ isGv (R g).deed = true := by
  unfold seqM
  rw [List.mem_append]
  refine ⟨fun h => h.elim (mem_told L) fun h => ⟨(mem_rest.mp h).1, (mem_rest.mp h).2.1⟩, fun h => ?_⟩
  by_cases c : g ∈ told n R M
  · exact .inl c
  · exact .inr (mem_rest.mpr ⟨h.1, h.2, c⟩)
/-- no give of the row ended ahead of the beginning of an earlier one -/
theorem seq_time (L : LF n R M) {i j g g' : Nat} (hi : (seqM n R M)[i]? = some g) (hj : (seqM n R M)[j]? = some g') (h : i ≤ j) : (R g).beg ≤ (R g').fin := by
  rcases Nat.eq_or_lt_of_le h with rfl | h
  · rw [hi] at hj
    cases hj
    exact L.beg g ((mem_seq L).mp (List.mem_of_getElem? hi)).1
  refine Nat.le_of_not_lt fun c => ?_
  obtain ⟨g1, g2⟩ := (mem_seq L).mp (List.mem_of_getElem? hj)
  unfold seqM at hi hj
  by_cases ci : i < (told n R M).length
  · rw [List.getElem?_append_left ci, told_at L] at hi
    obtain ⟨p, h1, rfl⟩ := Option.map_eq_some_iff.mp hi
    have hp := gv_of L (List.mem_of_getElem? h1)
    obtain ⟨p', k1, k2, k3⟩ := hp.2.2.2.2.2.2.2 g' g1 g2 c
    have hpn := (mem_tt.mp (List.mem_of_getElem? h1)).1
    obtain ⟨k, e1, e2⟩ := told_of L (by omega) k2 g1 g2 k3
    by_cases cj : j < (told n R M).length
    · rw [List.getElem?_append_left cj] at hj
      have hkj := nodup_at (told_nodup L) e2 hj
      subst hkj
      have := tt_lt h1 e1 h
      omega
    · rw [List.getElem?_append_right (by omega)] at hj
      exact (mem_rest.mp (List.mem_of_getElem? hj)).2.2 (List.mem_of_getElem? e2)
  · rw [List.getElem?_append_right (by omega)] at hi hj
    obtain ⟨a1, b1⟩ := List.getElem?_eq_some_iff.mp hi
    obtain ⟨a2, b2⟩ := List.getElem?_eq_some_iff.mp hj
    have := List.pairwise_iff_getElem.mp (rest_sorted (n := n) (R := R) (M := M)) _ _ a1 a2 (by omega)
    rw [b1, b2] at this
    have h3 := L.ends g g' this g1
    have h4 := L.beg g (by omega)
    omega
end
end Sd

/-! the keys in order; what stands ahead of each -/
namespace Sd
theorem sfx_at {fin : Nat → Nat} : ∀ {l : List Nat} {r j : Nat} {k : Key}, (sfx fin r l)[j]? = some k → k.2.1 = r + j ∧ l[j]? = some k.2.2 ∧ (∃ j' g', j ≤ j' ∧ l[j']? = some g' ∧ k.1 = fin g') ∧ ∀ j' g', j ≤ j' → l[j']? = some g' → k.1 ≤ fin g'
  | [], _, _, _, h => nomatch h
  | p :: l, r, 0, k, h => by
    unfold sfx at h
    have e : ((match sfx fin (r + 1) l with | [] => fin p | k :: _ => if k.1 < fin p then k.1 else fin p), r, p) = k := Option.some.inj h
    subst e
    refine ⟨rfl, rfl, ?_⟩
    dsimp only
    cases hs : sfx fin (r + 1) l with
    | nil =>
      have hl : l = [] := by
        cases l with
        | nil => rfl
        | cons a b => unfold sfx at hs; cases hs
      subst hl
      refine ⟨⟨0, p, Nat.le_refl _, rfl, rfl⟩, fun j' g' _ hj => ?_⟩
      cases j' with
      | zero => cases hj; exact Nat.le_refl _
      | succ j' => cases hj
    | cons k ks =>
      obtain ⟨_, _, ⟨j', g', _, h3, h4⟩, h5⟩ := sfx_at (fin := fin) (l := l) (r := r + 1) (j := 0) (k := k) (by rw [hs]; rfl)
      dsimp only
      refine ⟨?_, fun j2 g2 _ hj => ?_⟩
      · split
        · exact ⟨j' + 1, g', Nat.zero_le _, h3, h4⟩
        · exact ⟨0, p, Nat.le_refl _, rfl, rfl⟩
      · cases j2 with
        | zero => cases hj; split <;> omega
        | succ j2 =>
          have := h5 j2 g2 (Nat.zero_le _) hj
          split <;> omega
  | p :: l, r, j + 1, k, h => by
    unfold sfx at h
    obtain ⟨h1, h2, ⟨j', g', h3, h4, h5⟩, h6⟩ := sfx_at (fin := fin) (l := l) (r := r + 1) (j := j) (k := k) h
    refine ⟨by omega, h2, ⟨j' + 1, g', by omega, h4, h5⟩, fun j2 g2 hj hg => ?_⟩
    cases j2 with
    | zero => omega
    | succ j2 => exact h6 j2 g2 (by omega) hg
theorem sfx_place {fin : Nat → Nat} : ∀ {l : List Nat} {r : Nat}, (sfx fin r l).map (fun k => k.2.2) = l
  | [], _ => rfl
  | p :: l, r => by
    unfold sfx
    rw [List.map_cons, sfx_place]
theorem sfx_sorted {fin : Nat → Nat} {l : List Nat} {r : Nat} : (sfx fin r l).Pairwise fun a b => klt a b = true := by
  refine List.pairwise_iff_getElem.mpr fun i j hi hj hij => klt_iff.mpr ?_
  obtain ⟨h1, _, _, h2⟩ := sfx_at (List.getElem?_eq_getElem hi)
  obtain ⟨h3, _, ⟨j', g', h4, h5, h6⟩, _⟩ := sfx_at (List.getElem?_eq_getElem hj)
  have := h2 j' g' (by omega) h5
  omega
section
variable {n : Nat} {R : Nat → Rec} {M : Nat → Mark} {m : Nat}
abbrev pk (k : Key) : Nat := k.2.2
/-- the places of the changes of a thing -/
def chs (n : Nat) (R : Nat → Rec) (t : Nat) : List Nat := (List.range n).filter fun p => isChg t (R p)
def cellsR (m : Nat) (rs : List Rec) : List Int := rs.foldl (fun cs r => cs.set r.hand (behindCell (cs.getD r.hand 0) r.deed)) (List.replicate m 0)
def tellR (m : Nat) (d : Deed) (K : Nat) (rs : List Rec) : Ans :=
  match d with
  | .count => .int K
  | .look => .view (cellsR m rs)
  | .sum => .int (cellsR m rs).sum
  | .top => .int (top0 (cellsR m rs))
  | _ => .non
/-- what is known of the records -/
structure TF (m n : Nat) (R : Nat → Rec) (M : Nat → Mark) : Prop extends LF n R M where
  puts : ∀ p, p < n → (R p).deed.puts = true → (R p).ans = .non
  tells : ∀ p, p < n → (R p).deed.tells = true → ∃ K : Nat, K ≤ (chs n R (R p).deed.thing).length ∧ M p = .mom K ∧ (R p).ans = tellR m (R p).deed K (((chs n R (R p).deed.thing).take K).map R) ∧
    (∀ (q c : Nat), (chs n R (R p).deed.thing)[q]? = some c → q < K → (R c).fin < (R p).fin) ∧ (∀ (q c : Nat), (chs n R (R p).deed.thing)[q]? = some c → K ≤ q → (R p).beg < (R c).fin)
theorem mem_chs {t c : Nat} : c ∈ chs n R t ↔ c < n ∧ isChg t (R c) = true := by
  unfold chs
  rw [List.mem_filter, List.mem_range]
theorem chs_lt {t i j p q : Nat} (hi : (chs n R t)[i]? = some p) (hj : (chs n R t)[j]? = some q) (h : i < j) : p < q := by
  have hp : (chs n R t).Pairwise (· < ·) := List.Pairwise.filter _ List.pairwise_lt_range
  obtain ⟨h1, e1⟩ := List.getElem?_eq_some_iff.mp hi
  obtain ⟨h2, e2⟩ := List.getElem?_eq_some_iff.mp hj
  rw [← e1, ← e2]
  exact List.pairwise_iff_getElem.mp hp i j h1 h2 h
theorem range_split {p n : Nat} (h : p ≤ n) : List.range n = List.range p ++ (List.range (n - p)).map (p + ·) := by
  rw [← List.range_add]
  congr 1
  omega
/-- what the program looks up of the changes ahead of a place -/
theorem changes_at {t p q c : Nat} (hp : p ≤ n) (hc : (chs n R t)[q]? = some c) (h : c < p) : (changes R t p).getD q 0 = (R c).fin := by
  have e : ((List.range p).filter fun p => isChg t (R p))[q]? = some c := by
    unfold chs at hc
    rw [range_split hp, List.filter_append] at hc
    by_cases k : q < ((List.range p).filter fun p => isChg t (R p)).length
    · rw [List.getElem?_append_left k] at hc
      exact hc
    · rw [List.getElem?_append_right (Nat.le_of_not_lt k)] at hc
      have := (List.mem_filter.mp (List.mem_of_getElem? hc)).1
      obtain ⟨x, _, rfl⟩ := List.mem_map.mp this
      omega
  unfold changes
  rw [List.getD_eq_getElem?_getD, List.getElem?_map, e]
  rfl
/-- a telling deed's key: the changes that it saw, and no others, stand ahead -/
theorem moment_at (T : TF m n R M) {p : Nat} (hp : p < n) (ht : (R p).deed.tells = true) : ∃ K : Nat, (R p).ans = tellR m (R p).deed K (((chs n R (R p).deed.thing).take K).map R) ∧ K ≤ (chs n R (R p).deed.thing).length ∧
    (R p).beg ≤ moment R M p ∧ moment R M p ≤ (R p).fin ∧ ∀ (q c : Nat), (chs n R (R p).deed.thing)[q]? = some c → ((R c).fin ≤ moment R M p ↔ q < K) := by
  obtain ⟨K, h1, h2, h3, h4, h5⟩ := T.tells p hp ht
  have hb := T.beg p hp
  refine ⟨K, h3, h1, ?_⟩
  unfold moment
  rw [h2]
  dsimp only
  cases K with
  | zero =>
    rw [if_pos (show ((0 : Nat) : Int) = 0 from rfl)]
    exact ⟨Nat.le_refl _, hb, fun q c hc => ⟨fun h => by have := h5 q c hc (Nat.zero_le _); omega, fun h => absurd h (Nat.not_lt_zero _)⟩⟩
  | succ K =>
    rw [if_neg (by omega)]
    have hK : K < (chs n R (R p).deed.thing).length := h1
    have e := List.getElem?_eq_getElem hK
    generalize (chs n R (R p).deed.thing)[K] = c at e
    have hcf := h4 K c e (Nat.lt_succ_self _)
    have hcn := (mem_chs.mp (List.mem_of_getElem? e)).1
    have hcp : c < p := by
      refine Nat.lt_of_not_le fun z => ?_
      rcases Nat.eq_or_lt_of_le z with rfl | z
      · omega
      · have := T.ends p c z hcn
        omega
    have e2 : ((K + 1 : Nat) : Int).toNat - 1 = K := by omega
    rw [e2, changes_at (Nat.le_of_lt hp) e hcp]
    refine ⟨by split <;> omega, by split <;> omega, fun q a ha => ⟨fun h => ?_, fun h => ?_⟩⟩
    · refine Nat.lt_of_not_le fun z => ?_
      have h6 := h5 q a ha z
      have h7 := T.ends c a (chs_lt e ha (by omega)) (mem_chs.mp (List.mem_of_getElem? ha)).1
      split at h <;> omega
    · have h7 : (R a).fin ≤ (R c).fin := by
        rcases Nat.eq_or_lt_of_le (Nat.le_of_lt_succ h) with rfl | z
        · rw [ha] at e
          cases e
          exact Nat.le_refl _
        · exact Nat.le_of_lt (T.ends a c (chs_lt ha e z) hcn)
      split <;> omega
/-! keys -/
theorem take_thing {d : Deed} (h : isTk d = true) : d.thing = 4 ∧ isGv d = false ∧ d.puts = false ∧ d.tells = false := by
  rw [isTk_iff.mp h]
  exact ⟨rfl, rfl, rfl, rfl⟩
theorem give_thing {d : Deed} (h : isGv d = true) : d.thing = 4 ∧ isTk d = false ∧ d.puts = true ∧ d.tells = false := by
  cases d <;> first | exact ⟨rfl, rfl, rfl, rfl⟩ | exact nomatch h
theorem line_thing {d : Deed} (h : d.thing = 4) : isGv d = true ∨ isTk d = true := by
  cases d <;> first | exact .inl rfl | exact .inr rfl | exact nomatch h
theorem keys_places : (keysM n R M).map pk = ((List.range n).filter fun p => isTk (R p).deed) ++ (seqM n R M).reverse ++ (List.range n).filter fun p => decide ((R p).deed.thing ≠ 4) := by
  unfold keysM takeKeys others
  rw [List.map_append, List.map_append, List.map_map, List.map_reverse, sfx_place, List.map_map]
  congr 1
  · congr 1
    exact (List.map_congr_left fun p _ => rfl).trans (List.map_id _)
  · refine (List.map_congr_left fun p _ => ?_).trans (List.map_id _)
    show (otherKey R M p).2.2 = p
    unfold otherKey
    split <;> rfl
theorem keys_nodup (L : LF n R M) : ((keysM n R M).map pk).Nodup := by
  have hr : (List.range n).Nodup := List.nodup_range
  rw [keys_places]
  refine List.nodup_append.mpr ⟨List.nodup_append.mpr ⟨hr.sublist List.filter_sublist, (List.reverse_perm _).symm.nodup (seq_nodup L), fun a ha b hb e => ?_⟩, hr.sublist List.filter_sublist, fun a ha b hb e => ?_⟩
  · subst e
    have h1 := (List.mem_filter.mp ha).2
    have h2 := ((mem_seq L).mp (List.mem_reverse.mp hb)).2
    rw [(take_thing h1).2.1] at h2
    cases h2
  · subst e
    have h2 := of_decide_eq_true (List.mem_filter.mp hb).2
    rcases List.mem_append.mp ha with ha | ha
    · exact h2 (take_thing (List.mem_filter.mp ha).2).1
    · exact h2 (give_thing ((mem_seq L).mp (List.mem_reverse.mp ha)).2).1
theorem keys_perm (L : LF n R M) : ((keysM n R M).map pk).Perm (List.range n) := by
  refine (List.perm_ext_iff_of_nodup (keys_nodup L) List.nodup_range).mpr fun p => ?_
  rw [keys_places, List.mem_append, List.mem_append, List.mem_filter, List.mem_reverse, mem_seq L, List.mem_filter, List.mem_range, decide_eq_true_iff]
  refine ⟨fun h => ?_, fun h => ?_⟩
  · rcases h with (h | h) | h <;> exact h.1
  · by_cases c : (R p).deed.thing = 4
    · rcases line_thing c with c | c
      · exact .inl (.inr ⟨h, c⟩)
      · exact .inl (.inl ⟨h, c⟩)
    · exact .inr ⟨h, c⟩
theorem mem_keys {x : Key} (h : x ∈ keysM n R M) : (pk x < n ∧ isTk (R (pk x)).deed = true ∧ x = takeKey R M (pk x)) ∨ (x ∈ sfx (fun p => (R p).fin) 0 (seqM n R M)) ∨ (pk x < n ∧ (R (pk x)).deed.thing ≠ 4 ∧ x = otherKey R M (pk x)) := by
  unfold keysM at h
  rcases List.mem_append.mp h with h | h
  · rcases List.mem_append.mp h with h | h
    · obtain ⟨p, hp, rfl⟩ := List.mem_map.mp h
      obtain ⟨h1, h2⟩ := List.mem_filter.mp hp
      exact .inl ⟨List.mem_range.mp h1, h2, rfl⟩
    · exact .inr (.inl (List.mem_reverse.mp h))
  · obtain ⟨p, hp, rfl⟩ := List.mem_map.mp h
    obtain ⟨h1, h2⟩ := List.mem_filter.mp hp
    have e : pk (otherKey R M p) = p := by
      unfold otherKey
      split <;> rfl
    rw [e]
    exact .inr (.inr ⟨List.mem_range.mp h1, of_decide_eq_true h2, rfl⟩)
theorem sfx_of {x : Key} (h : x ∈ sfx (fun p => (R p).fin) 0 (seqM n R M)) : ∃ j : Nat, (sfx (fun p => (R p).fin) 0 (seqM n R M))[j]? = some x ∧ (seqM n R M)[j]? = some (pk x) := by
  obtain ⟨j, hj⟩ := List.getElem?_of_mem h
  exact ⟨j, hj, (sfx_at hj).2.1⟩
/-- a key's step lies within its deed -/
theorem key_step (T : TF m n R M) {x : Key} (h : x ∈ keysM n R M) : pk x < n ∧ (R (pk x)).beg ≤ x.1 ∧ x.1 ≤ (R (pk x)).fin := by
  rcases mem_keys h with ⟨h1, h2, h3⟩ | h | ⟨h1, h2, h3⟩
  · have hb := T.beg _ h1
    generalize pk x = p at *
    rw [h3]
    unfold takeKey
    refine ⟨h1, ?_⟩
    dsimp only
    split <;> omega
  · obtain ⟨j, h1, h2⟩ := sfx_of h
    obtain ⟨_, _, ⟨j', g', h3, h4, h5⟩, h6⟩ := sfx_at h1
    refine ⟨((mem_seq T.toLF).mp (List.mem_of_getElem? h2)).1, ?_, h6 j _ (Nat.le_refl _) h2⟩
    rw [h5]
    exact seq_time T.toLF h2 h4 h3
  · have hb := T.beg _ h1
    generalize pk x = p at *
    rw [h3]
    unfold otherKey
    refine ⟨h1, ?_⟩
    split
    · rename_i c
      obtain ⟨_, _, _, k1, k2, _⟩ := moment_at T h1 c
      exact ⟨k1, k2⟩
    · exact ⟨hb, Nat.le_refl _⟩
end
end Sd

/-! the walk through the order -/
namespace Sd
theorem filter_map' {A B : Type} {f : A → B} {p : B → Bool} : ∀ {l : List A}, (l.map f).filter p = (l.filter fun a => p (f a)).map f
  | [] => rfl
  | a :: l => by
    rw [List.map_cons]
    by_cases c : p (f a) = true
    · rw [List.filter_cons_of_pos c, List.filter_cons_of_pos (p := fun a => p (f a)) c, List.map_cons, filter_map']
    · rw [List.filter_cons_of_neg c, List.filter_cons_of_neg (p := fun a => p (f a)) c, filter_map']
theorem map_filter_of {A B : Type} {f g : A → B} {P Q : A → Bool} : ∀ {l : List A}, (∀ a ∈ l, P a = Q a ∧ (Q a = true → f a = g a)) → (l.filter P).map f = (l.filter Q).map g
  | [], _ => rfl
  | a :: l, h => by
    have ih := map_filter_of (l := l) fun b hb => h b (List.mem_cons_of_mem _ hb)
    obtain ⟨h1, h2⟩ := h a List.mem_cons_self
    by_cases c : Q a = true
    · rw [List.filter_cons_of_pos (h1.trans c), List.filter_cons_of_pos c, List.map_cons, List.map_cons, ih, h2 c]
    · rw [List.filter_cons_of_neg (by rw [h1]; exact c), List.filter_cons_of_neg c, ih]
theorem filter_none {A : Type} {P : A → Bool} {l : List A} (h : ∀ a ∈ l, P a = false) : l.filter P = [] := List.filter_eq_nil_iff.mpr fun a ha => by rw [h a ha]; exact Bool.false_ne_true
/-! what stands behind a row of deeds -/
def after (s : L5) (rs : List Rec) : L5 := rs.foldl (fun s r => s.behind r.hand r.deed) s
def cellR (cs : List Int) (r : Rec) : List Int := cs.set r.hand (behindCell (cs.getD r.hand 0) r.deed)
theorem after_ones : ∀ (rs : List Rec) (s : L5), (after s rs).ones = s.ones + ((rs.filter (isChg 0)).length : Nat)
  | [], s => by show s.ones = s.ones + 0; rw [Int.add_zero]
  | ⟨h, d, b, f, a⟩ :: rs, s => by
    have ih := after_ones rs (s.behind h d)
    cases d with
    | one =>
      show (after (s.behind h .one) rs).ones = s.ones + (((⟨h, .one, b, f, a⟩ : Rec) :: rs.filter (isChg 0)).length : Nat)
      rw [ih, List.length_cons]
      show s.ones + 1 + _ = _
      omega
    | _ => exact ih
theorem after_cells : ∀ (rs : List Rec) (s : L5), (after s rs).cells = (rs.filter (isChg 1)).foldl cellR s.cells
  | [], s => rfl
  | ⟨h, d, b, f, a⟩ :: rs, s => by
    have ih := after_cells rs (s.behind h d)
    cases d with
    | _ => exact ih
theorem after_adds : ∀ (rs : List Rec) (s : L5), (after s rs).adds = (rs.filter (isChg 2)).foldl cellR s.adds
  | [], s => rfl
  | ⟨h, d, b, f, a⟩ :: rs, s => by
    have ih := after_adds rs (s.behind h d)
    cases d with
    | _ => exact ih
theorem after_tops : ∀ (rs : List Rec) (s : L5), (after s rs).tops = (rs.filter (isChg 3)).foldl cellR s.tops
  | [], s => rfl
  | ⟨h, d, b, f, a⟩ :: rs, s => by
    have ih := after_tops rs (s.behind h d)
    cases d with
    | _ => exact ih
theorem after_snoc (s : L5) (rs : List Rec) (r : Rec) : after s (rs ++ [r]) = (after s rs).behind r.hand r.deed := by
  unfold after
  rw [List.foldl_append]
  rfl
section
variable {n : Nat} {R : Nat → Rec} {M : Nat → Mark} {m : Nat} {ks : List Key}
/-- the keys of a thing's changes -/
def chKeys (n : Nat) (R : Nat → Rec) (t : Nat) : List Key := (chs n R t).map fun p => ((R p).fin, 0, p)
def ttKeys (n : Nat) (R : Nat → Rec) (M : Nat → Mark) : List Key := (ttM n R M).map fun p => ((R p).fin, 0, p)
theorem chs_sorted {L : LF n R M} {l : List Nat} (hl : l.Pairwise (· < ·)) (hn : ∀ p ∈ l, p < n) : (l.map fun p => ((R p).fin, 0, p)).Pairwise fun a b => klt a b = true := by
  rw [List.pairwise_map]
  refine List.Pairwise.imp_of_mem (fun {a b} _ hb h => ?_) hl
  refine klt_iff.mpr (.inl ?_)
  exact L.ends a b h (hn b hb)
/-- the keys, sorted -/
structure Sorted (n : Nat) (R : Nat → Rec) (M : Nat → Mark) (ks : List Key) : Prop where
  perm : ks.Perm (keysM n R M)
  lt : ks.Pairwise fun a b => klt a b = true
theorem Sorted.of (L : LF n R M) (hp : ks.Perm (keysM n R M)) (hs : ks.Pairwise fun a b => klt b a = false) : Sorted n R M ks := by
  refine ⟨hp, ?_⟩
  have hn : (ks.map pk).Nodup := (hp.map pk).symm.nodup (keys_nodup L)
  have hn2 : ks.Pairwise fun a b => pk a ≠ pk b := List.pairwise_map.mp hn
  refine (hs.and hn2).imp fun {a b} h => ?_
  rcases klt_tri h.1 with c | c
  · exact c
  · exact absurd (congrArg pk c) h.2
theorem Sorted.chg (S : Sorted n R M ks) (L : LF n R M) {t : Nat} (ht : t ≠ 4) : (ks.filter fun x => isChg t (R (pk x))) = chKeys n R t := by
  refine sorted_same ?_ (S.lt.filter _) (chs_sorted (L := L) (List.Pairwise.filter _ List.pairwise_lt_range) fun p hp => (mem_chs.mp hp).1)
  refine (S.perm.filter _).trans (List.Perm.of_eq ?_)
  unfold keysM takeKeys others
  rw [List.filter_append, List.filter_append, filter_map', filter_map', filter_none (l := ((List.range n).filter fun p => isTk (R p).deed)), filter_none (l := (sfx _ 0 _).reverse)]
  · rw [List.filter_filter]
    show (List.filter _ (List.range n)).map _ = (chs n R t).map _
    unfold chs
    refine map_filter_of fun p _ => ?_
    have e : pk (otherKey R M p) = p := by
      unfold otherKey
      split <;> rfl
    rw [e]
    by_cases c : isChg t (R p) = true
    · have c2 := c
      unfold isChg at c2
      rw [Bool.and_eq_true, beq_iff_eq] at c2
      rw [c, decide_eq_true (by rw [c2.2]; exact ht)]
      refine ⟨rfl, fun _ => ?_⟩
      unfold otherKey
      rw [if_neg]
      intro z
      have := not_puts (.inl z)
      rw [this] at c2
      cases c2.1
    · rw [Bool.not_eq_true] at c
      rw [c]
      exact ⟨rfl, fun z => by cases z⟩
  · intro x hx
    obtain ⟨j, _, h2⟩ := sfx_of (List.mem_reverse.mp hx)
    have h3 := ((mem_seq L).mp (List.mem_of_getElem? h2)).2
    unfold isChg
    rw [(give_thing h3).1, beq_eq_false_iff_ne.mpr (Ne.symm ht), Bool.and_false]
  · intro p hp
    have h3 := (List.mem_filter.mp hp).2
    show isChg t (R p) = false
    unfold isChg
    rw [(take_thing h3).2.2.1]
    rfl
theorem Sorted.gives (S : Sorted n R M ks) (L : LF n R M) : (ks.filter fun x => isGv (R (pk x)).deed) = sfx (fun p => (R p).fin) 0 (seqM n R M) := by
  refine sorted_same ?_ (S.lt.filter _) sfx_sorted
  refine (S.perm.filter _).trans ?_
  unfold keysM takeKeys others
  rw [List.filter_append, List.filter_append, filter_map', filter_map', filter_none (l := ((List.range n).filter fun p => isTk (R p).deed)), filter_none (l := ((List.range n).filter fun p => decide ((R p).deed.thing ≠ 4)))]
  · rw [List.map_nil, List.map_nil, List.nil_append, List.append_nil]
    have : (sfx (fun p => (R p).fin) 0 (seqM n R M)).reverse.filter (fun x => isGv (R (pk x)).deed) = (sfx (fun p => (R p).fin) 0 (seqM n R M)).reverse := List.filter_eq_self.mpr fun x hx => by
      obtain ⟨j, _, h2⟩ := sfx_of (List.mem_reverse.mp hx)
      exact ((mem_seq L).mp (List.mem_of_getElem? h2)).2
    rw [this]
    exact List.reverse_perm _
  · intro p hp
    have h3 := of_decide_eq_true (List.mem_filter.mp hp).2
    have e : pk (otherKey R M p) = p := by
      unfold otherKey
      split <;> rfl
    rw [e]
    cases c : isGv (R p).deed with
    | false => rfl
    | true => exact absurd (give_thing c).1 h3
  · intro p hp
    exact (take_thing (List.mem_filter.mp hp).2).2.1
theorem Sorted.tts (S : Sorted n R M ks) (L : LF n R M) : (ks.filter fun x => isTk (R (pk x)).deed && decide (M (pk x) ≠ .non)) = ttKeys n R M := by
  refine sorted_same ?_ (S.lt.filter _) (chs_sorted (L := L) (List.Pairwise.filter _ List.pairwise_lt_range) fun p hp => (mem_tt.mp hp).1)
  refine (S.perm.filter _).trans (List.Perm.of_eq ?_)
  unfold keysM takeKeys others
  rw [List.filter_append, List.filter_append, filter_map', filter_map', filter_none (l := (sfx _ 0 _).reverse), filter_none (l := ((List.range n).filter fun p => decide ((R p).deed.thing ≠ 4)))]
  · rw [List.map_nil, List.append_nil, List.append_nil, List.filter_filter]
    show (List.filter _ (List.range n)).map _ = (ttM n R M).map _
    unfold ttM
    refine map_filter_of fun p _ => ?_
    show ((isTk (R p).deed && decide (M p ≠ .non)) && isTk (R p).deed) = _ ∧ _
    cases isTk (R p).deed with
    | false => exact ⟨rfl, fun z => by cases z⟩
    | true =>
      rw [Bool.and_true, Bool.true_and]
      refine ⟨rfl, fun z => ?_⟩
      unfold takeKey
      rw [if_neg (of_decide_eq_true z)]
  · intro p hp
    have h3 := of_decide_eq_true (List.mem_filter.mp hp).2
    have e : pk (otherKey R M p) = p := by
      unfold otherKey
      split <;> rfl
    rw [e]
    cases c : isTk (R p).deed with
    | false => rfl
    | true => exact absurd (take_thing c).1 h3
  · intro x hx
    obtain ⟨j, _, h2⟩ := sfx_of (List.mem_reverse.mp hx)
    rw [(give_thing ((mem_seq L).mp (List.mem_of_getElem? h2)).2).2.1]
    rfl
abbrev recsOf (R : Nat → Rec) (pre : List Key) : List Rec := pre.map fun x => R (pk x)
theorem Sorted.mem (S : Sorted n R M ks) {x : Key} (h : x ∈ ks) : x ∈ keysM n R M := S.perm.mem_iff.mp h
/-- ahead of a telling deed: just the changes that it saw -/
theorem Sorted.saw (S : Sorted n R M ks) (T : TF m n R M) {pre post : List Key} {x : Key} (e : ks = pre ++ x :: post) (ht : (R (pk x)).deed.tells = true) :
    ∃ K : Nat, (R (pk x)).ans = tellR m (R (pk x)).deed K (((chs n R (R (pk x)).deed.thing).take K).map R) ∧ K ≤ (chs n R (R (pk x)).deed.thing).length ∧ (recsOf R pre).filter (isChg (R (pk x)).deed.thing) = ((chs n R (R (pk x)).deed.thing).take K).map R := by
  have hx := S.mem (x := x) (by rw [e]; simp)
  have hxn := (key_step T hx).1
  obtain ⟨K, h1, h2, _, _, h3⟩ := moment_at T hxn ht
  refine ⟨K, h1, h2, ?_⟩
  have h4 : (R (pk x)).deed.thing ≠ 4 := fun z => by
    rcases line_thing z with z | z
    · rw [(give_thing z).2.2.2] at ht; cases ht
    · rw [(take_thing z).2.2.2] at ht; cases ht
  have hk : x = otherKey R M (pk x) := by
    rcases mem_keys hx with ⟨_, z, _⟩ | z | ⟨_, _, z⟩
    · rw [(take_thing z).2.2.2] at ht; cases ht
    · obtain ⟨j, _, z⟩ := sfx_of z
      rw [(give_thing ((mem_seq T.toLF).mp (List.mem_of_getElem? z)).2).2.2.2] at ht
      cases ht
    · exact z
  have hk2 : x = (moment R M (pk x), 1, pk x) := by
    refine hk.trans ?_
    unfold otherKey
    rw [if_pos ht]
  show (pre.map _).filter _ = _
  rw [filter_map', split_lt S.lt e, List.filter_filter]
  have e2 : (ks.filter fun a => isChg (R (pk x)).deed.thing (R (pk a)) && klt a x) = (chKeys n R (R (pk x)).deed.thing).take K := by
    have : (ks.filter fun a => isChg (R (pk x)).deed.thing (R (pk a)) && klt a x) = (ks.filter fun a => isChg (R (pk x)).deed.thing (R (pk a))).filter fun a => klt a x := by
      rw [List.filter_filter]
      congr 1
      funext a
      rw [Bool.and_comm]
    rw [this, S.chg T.toLF h4]
    refine filter_take fun q a hq => ?_
    unfold chKeys at hq
    rw [List.getElem?_map] at hq
    obtain ⟨c, hc, rfl⟩ := Option.map_eq_some_iff.mp hq
    rw [← h3 q c hc, klt_iff, hk2]
    show ((R c).fin < moment R M (pk x) ∨ ((R c).fin = moment R M (pk x) ∧ _)) ↔ _
    refine ⟨fun h => h.elim Nat.le_of_lt fun h => Nat.le_of_eq h.1, fun h => ?_⟩
    rcases Nat.eq_or_lt_of_le h with h | h
    · exact .inr ⟨h, .inl Nat.zero_lt_one⟩
    · exact .inl h
  rw [e2]
  unfold chKeys
  rw [← List.map_take, List.map_map]
  rfl
/-- its answer is what stands there -/
theorem Sorted.tell (S : Sorted n R M ks) (T : TF m n R M) {pre post : List Key} {x : Key} (e : ks = pre ++ x :: post) (ht : (R (pk x)).deed.tells = true) : (after (L5.first m) (recsOf R pre)).ans (R (pk x)).deed = (R (pk x)).ans := by
  obtain ⟨K, h1, h2, h3⟩ := S.saw T e ht
  rw [h1]
  generalize recsOf R pre = rs at h3 ⊢
  generalize (R (pk x)).deed = d at *
  cases d with
  | count =>
    show Ans.int (after _ rs).ones = Ans.int K
    have h3' : rs.filter (isChg 0) = ((chs n R 0).take K).map R := h3
    rw [after_ones, h3', List.length_map, List.length_take, Nat.min_eq_left (show K ≤ (chs n R 0).length from h2)]
    show Ans.int (0 + _) = _
    rw [Int.zero_add]
  | look =>
    show Ans.view (after _ rs).cells = Ans.view _
    have h3' : rs.filter (isChg 1) = ((chs n R 1).take K).map R := h3
    rw [after_cells, h3']
    rfl
  | sum =>
    show Ans.int (after _ rs).adds.sum = Ans.int _
    have h3' : rs.filter (isChg 2) = ((chs n R 2).take K).map R := h3
    rw [after_adds, h3']
    rfl
  | top =>
    show Ans.int (top0 (after _ rs).tops) = Ans.int _
    have h3' : rs.filter (isChg 3) = ((chs n R 3).take K).map R := h3
    rw [after_tops, h3']
    rfl
  | one => cases ht
  | set g => cases ht
  | add g => cases ht
  | rais g => cases ht
  | give g => cases ht
  | take => cases ht
end
end Sd

/-! the line in the order; the whole walk -/
namespace Sd
section
variable {n : Nat} {R : Nat → Rec} {M : Nat → Mark} {m : Nat} {ks : List Key}
abbrev gvF (R : Nat → Rec) (pre : List Key) : List Key := pre.filter fun x => isGv (R (pk x)).deed
abbrev ttF (R : Nat → Rec) (M : Nat → Mark) (pre : List Key) : List Key := pre.filter fun x => isTk (R (pk x)).deed && decide (M (pk x) ≠ .non)
structure LineAt (m n : Nat) (R : Nat → Rec) (M : Nat → Mark) (pre : List Key) : Prop where
  le : (ttF R M pre).length ≤ (gvF R pre).length
  line : (after (L5.first m) (recsOf R pre)).line = (((seqM n R M).take (gvF R pre).length).drop (ttF R M pre).length).map fun g => giftOf (R g).deed
theorem LineAt.nil : LineAt m n R M [] := ⟨Nat.le_refl _, rfl⟩
theorem take_front {A : Type} {l a b : List A} (e : l = a ++ b) : a = l.take a.length := by rw [e, List.take_left]
theorem front_at {A : Type} {l a b : List A} {x : A} (e : l = a ++ x :: b) : l[a.length]? = some x := by
  rw [e, List.getElem?_append_right (Nat.le_refl _), Nat.sub_self]
  rfl
theorem behind_line {s : L5} {h : Nat} {d : Deed} (h1 : isGv d = false) (h2 : isTk d = false) : (s.behind h d).line = s.line := by
  cases d <;> first | rfl | exact absurd h1 (by decide) | exact absurd h2 (by decide) | exact absurd (show true = false from h1) (by decide)
theorem line_step (S : Sorted n R M ks) (T : TF m n R M) {pre post : List Key} {x : Key} (e : ks = pre ++ x :: post) (I : LineAt m n R M pre) :
    LineAt m n R M (pre ++ [x]) ∧ (isTk (R (pk x)).deed = true → (after (L5.first m) (recsOf R pre)).ans (R (pk x)).deed = (R (pk x)).ans) := by
  have L := T.toLF
  have eg : ks.filter (fun x => isGv (R (pk x)).deed) = gvF R pre ++ (x :: post).filter (fun x => isGv (R (pk x)).deed) := by rw [e, List.filter_append]
  have et : ks.filter (fun x => isTk (R (pk x)).deed && decide (M (pk x) ≠ .non)) = ttF R M pre ++ (x :: post).filter (fun x => isTk (R (pk x)).deed && decide (M (pk x) ≠ .non)) := by rw [e, List.filter_append]
  rw [S.gives L] at eg
  rw [S.tts L] at et
  have efront := split_lt S.lt e
  have hx := S.mem (x := x) (by rw [e]; simp)
  have hsl : (sfx (fun p => (R p).fin) 0 (seqM n R M)).length = (seqM n R M).length := by
    have := congrArg List.length (sfx_place (fin := fun p => (R p).fin) (l := seqM n R M) (r := 0))
    rw [List.length_map] at this
    exact this
  have snd : (sfx (fun p => (R p).fin) 0 (seqM n R M)).Nodup := sfx_sorted.imp fun {a b} h z => by rw [z, klt_irr] at h; cases h
  have tnd : (ttKeys n R M).Nodup := by
    have : (ttKeys n R M).Pairwise fun a b => klt a b = true := by
      rw [← S.tts L]
      exact S.lt.filter _
    exact this.imp fun {a b} h z => by rw [z, klt_irr] at h; cases h
  have gmem : ∀ {y : Key} {j : Nat}, (sfx (fun p => (R p).fin) 0 (seqM n R M))[j]? = some y → klt y x = true → j < (gvF R pre).length := fun {y j} hy hl => by
    have h1 : y ∈ ks.filter fun x => isGv (R (pk x)).deed := by rw [S.gives L]; exact List.mem_of_getElem? hy
    obtain ⟨h2, h3⟩ := List.mem_filter.mp h1
    have h4 : y ∈ pre := by rw [efront]; exact List.mem_filter.mpr ⟨h2, hl⟩
    obtain ⟨i, hi⟩ := List.getElem?_of_mem (List.mem_filter.mpr ⟨h4, h3⟩ : y ∈ gvF R pre)
    have hil : i < (gvF R pre).length := (List.getElem?_eq_some_iff.mp hi).1
    have h5 : (sfx (fun p => (R p).fin) 0 (seqM n R M))[i]? = some y := by rw [eg, List.getElem?_append_left hil]; exact hi
    have := nodup_at snd hy h5
    omega
  have tmem : ∀ {y : Key} {j : Nat}, (ttKeys n R M)[j]? = some y → klt y x = true → j < (ttF R M pre).length := fun {y j} hy hl => by
    have h1 : y ∈ ks.filter fun x => isTk (R (pk x)).deed && decide (M (pk x) ≠ .non) := by rw [S.tts L]; exact List.mem_of_getElem? hy
    obtain ⟨h2, h3⟩ := List.mem_filter.mp h1
    have h4 : y ∈ pre := by rw [efront]; exact List.mem_filter.mpr ⟨h2, hl⟩
    obtain ⟨i, hi⟩ := List.getElem?_of_mem (List.mem_filter.mpr ⟨h4, h3⟩ : y ∈ ttF R M pre)
    have hil : i < (ttF R M pre).length := (List.getElem?_eq_some_iff.mp hi).1
    have h5 : (ttKeys n R M)[i]? = some y := by rw [et, List.getElem?_append_left hil]; exact hi
    have := nodup_at tnd hy h5
    omega
  have esn : after (L5.first m) (recsOf R (pre ++ [x])) = (after (L5.first m) (recsOf R pre)).behind (R (pk x)).hand (R (pk x)).deed := by
    show after _ ((pre ++ [x]).map _) = _
    rw [List.map_append]
    exact after_snoc _ _ _
  have eG : gvF R (pre ++ [x]) = gvF R pre ++ [x].filter fun x => isGv (R (pk x)).deed := List.filter_append _ _
  have eT : ttF R M (pre ++ [x]) = ttF R M pre ++ [x].filter fun x => isTk (R (pk x)).deed && decide (M (pk x) ≠ .non) := List.filter_append _ _
  obtain ⟨I1, I2⟩ := I
  by_cases c1 : isGv (R (pk x)).deed = true
  · -- a give
    have n1 := (give_thing c1).2.1
    rw [List.filter_cons_of_pos (p := fun x : Key => isGv (R (pk x)).deed) c1] at eG
    rw [List.filter_cons_of_neg (p := fun x : Key => isTk (R (pk x)).deed && decide (M (pk x) ≠ .non)) (by rw [n1]; exact Bool.false_ne_true)] at eT
    rw [List.filter_cons_of_pos (p := fun x : Key => isGv (R (pk x)).deed) c1] at eg
    have hat := (sfx_at (front_at eg)).2.1
    generalize gvF R pre = A at *
    generalize ttF R M pre = B at *
    refine ⟨⟨?_, ?_⟩, fun z => by rw [n1] at z; cases z⟩
    · rw [eG, eT, List.length_append, List.length_append]
      show B.length + 0 ≤ A.length + 1
      omega
    · rw [esn, eG, eT]
      show _ = (((seqM n R M).take (A ++ [x]).length).drop (B ++ []).length).map _
      obtain ⟨hl, hq⟩ := List.getElem?_eq_some_iff.mp hat
      rw [List.append_nil, List.length_append]
      show _ = (((seqM n R M).take (A.length + 1)).drop B.length).map _
      rw [List.take_succ_eq_append_getElem hl, hq, List.drop_append_of_le_length (by rw [List.length_take]; omega), List.map_append, ← I2]
      have : ∀ (s : L5) (h : Nat) (d : Deed), isGv d = true → (s.behind h d).line = s.line ++ [giftOf d] := fun s h d hd => by
        cases d <;> first | rfl | cases hd
      exact this _ _ _ c1
  · by_cases c2 : isTk (R (pk x)).deed = true
    · have c3 := isTk_iff.mp c2
      rw [List.filter_cons_of_neg (p := fun x : Key => isGv (R (pk x)).deed) c1] at eG
      by_cases c4 : M (pk x) = .non
      · -- a take that tells none
        have hp : (isTk (R (pk x)).deed && decide (M (pk x) ≠ .non)) = false := by rw [decide_eq_false (by rw [c4]; exact fun z => z rfl), Bool.and_false]
        rw [List.filter_cons_of_neg (p := fun x : Key => isTk (R (pk x)).deed && decide (M (pk x) ≠ .non)) (by rw [hp]; exact Bool.false_ne_true)] at eT
        have hxn := (key_step T hx).1
        obtain ⟨k1, k2⟩ := L.none _ hxn c2 c4
        have hkey : x = ((R (pk x)).beg, 0, pk x) := by
          rcases mem_keys hx with ⟨_, _, z⟩ | z | ⟨_, z, _⟩
          · refine z.trans ?_
            unfold takeKey
            rw [if_pos c4]
          · obtain ⟨j, _, z⟩ := sfx_of z
            exact absurd ((mem_seq L).mp (List.mem_of_getElem? z)).2 c1
          · exact absurd (take_thing c2).1 z
        have hempty : (gvF R pre).length ≤ (ttF R M pre).length := by
          refine Nat.le_of_not_lt fun z => ?_
          have hgl : (gvF R pre).length ≤ (seqM n R M).length := by rw [← hsl, eg, List.length_append]; omega
          obtain ⟨y, hy⟩ : ∃ y, (gvF R pre)[(ttF R M pre).length]? = some y := ⟨_, List.getElem?_eq_getElem z⟩
          have hy2 : (sfx (fun p => (R p).fin) 0 (seqM n R M))[(ttF R M pre).length]? = some y := by rw [eg, List.getElem?_append_left z]; exact hy
          have hlt : klt y x = true := by
            have : y ∈ pre := (List.mem_filter.mp (List.mem_of_getElem? hy)).1
            rw [efront] at this
            exact (List.mem_filter.mp this).2
          obtain ⟨_, _, ⟨j', g', h3, h4, h5⟩, _⟩ := sfx_at hy2
          have hle : y.1 ≤ (R (pk x)).beg := by
            have := klt_iff.mp hlt
            rw [hkey] at this
            dsimp only at this
            omega
          obtain ⟨g1, g2⟩ := (mem_seq L).mp (List.mem_of_getElem? h4)
          obtain ⟨p', q1, q2, q3⟩ := k2 g' g1 g2 (by omega)
          obtain ⟨k, r1, r2⟩ := told_of L (by omega) q2 g1 g2 q3
          have h6 : (seqM n R M)[k]? = some g' := by
            unfold seqM
            rw [List.getElem?_append_left (List.getElem?_eq_some_iff.mp r2).1]
            exact r2
          have h7 := nodup_at (seq_nodup L) h4 h6
          have h8 : (ttKeys n R M)[k]? = some ((R p').fin, 0, p') := by
            unfold ttKeys
            rw [List.getElem?_map, r1]
            rfl
          have := tmem h8 (by
            rw [klt_iff, hkey]
            exact .inl (L.seq p' (pk x) q1 hxn q2 c2))
          omega
        have hline : (after (L5.first m) (recsOf R pre)).line = [] := by
          rw [I2, List.drop_eq_nil_of_le (by rw [List.length_take]; omega)]
          rfl
        refine ⟨⟨?_, ?_⟩, fun _ => ?_⟩
        · rw [eG, eT]
          show (ttF R M pre ++ []).length ≤ (gvF R pre ++ []).length
          rw [List.append_nil, List.append_nil]
          exact I1
        · rw [esn, eG, eT, c3]
          show (List.drop 1 (after _ _).line) = (((seqM n R M).take (gvF R pre ++ []).length).drop (ttF R M pre ++ []).length).map _
          rw [List.append_nil, List.append_nil, ← I2, hline]
          rfl
        · rw [c3, k1]
          show (match (after (L5.first m) (recsOf R pre)).line with | [] => Ans.non | g :: _ => Ans.int g) = _
          rw [hline]
      · -- a take that tells a gift
        have hp : (isTk (R (pk x)).deed && decide (M (pk x) ≠ .non)) = true := by rw [c2, decide_eq_true c4]; rfl
        rw [List.filter_cons_of_pos (p := fun x : Key => isTk (R (pk x)).deed && decide (M (pk x) ≠ .non)) hp] at eT et
        have hat := front_at et
        unfold ttKeys at hat
        rw [List.getElem?_map] at hat
        obtain ⟨p, hp1, hp2⟩ := Option.map_eq_some_iff.mp hat
        have hpx : pk x = p := by rw [← hp2]
        subst hpx
        obtain ⟨_, g2, g3, g4, g5, g6, _⟩ := gv_of L (List.mem_of_getElem? hp1)
        have hseq : (seqM n R M)[(ttF R M pre).length]? = some (gv n R M (pk x)) := by
          have : (told n R M)[(ttF R M pre).length]? = some (gv n R M (pk x)) := by rw [told_at L, hp1]; rfl
          unfold seqM
          rw [List.getElem?_append_left (List.getElem?_eq_some_iff.mp this).1]
          exact this
        obtain ⟨hl, hq⟩ := List.getElem?_eq_some_iff.mp hseq
        have hlt : (ttF R M pre).length < (gvF R pre).length := by
          have e5 := List.getElem?_eq_getElem (l := sfx (fun p => (R p).fin) 0 (seqM n R M)) (i := (ttF R M pre).length) (by rw [hsl]; exact hl)
          refine gmem e5 ?_
          have := (sfx_at e5).2.2.2 _ _ (Nat.le_refl _) hseq
          rw [klt_iff]
          refine .inl ?_
          have hx1 : x.1 = (R (pk x)).fin := by rw [← hp2]
          rw [hx1]
          exact Nat.lt_of_le_of_lt this g6
        have hline : (after (L5.first m) (recsOf R pre)).line = giftOf (R (gv n R M (pk x))).deed :: ((((seqM n R M).take (gvF R pre).length).drop ((ttF R M pre).length + 1)).map fun g => giftOf (R g).deed) := by
          rw [I2]
          have h9 : (ttF R M pre).length < ((seqM n R M).take (gvF R pre).length).length := by rw [List.length_take]; omega
          rw [List.drop_eq_getElem_cons h9, List.getElem_take, hq, List.map_cons]
        generalize gvF R pre = A at *
        generalize ttF R M pre = B at *
        refine ⟨⟨?_, ?_⟩, fun _ => ?_⟩
        · rw [eG, eT]
          show (B ++ [x]).length ≤ (A ++ []).length
          rw [List.append_nil, List.length_append]
          exact hlt
        · rw [esn, eG, eT, c3]
          show (List.drop 1 (after _ _).line) = (((seqM n R M).take (A ++ []).length).drop (B ++ [x]).length).map _
          rw [List.append_nil, List.length_append, hline]
          rfl
        · rw [c3, g5]
          show (match (after (L5.first m) (recsOf R pre)).line with | [] => Ans.non | g :: _ => Ans.int g) = _
          rw [hline]
    · rw [Bool.not_eq_true] at c1 c2
      rw [List.filter_cons_of_neg (p := fun x : Key => isGv (R (pk x)).deed) (by rw [c1]; exact Bool.false_ne_true)] at eG
      rw [List.filter_cons_of_neg (p := fun x : Key => isTk (R (pk x)).deed && decide (M (pk x) ≠ .non)) (by rw [c2]; exact Bool.false_ne_true)] at eT
      refine ⟨⟨?_, ?_⟩, fun z => by rw [c2] at z; cases z⟩
      · rw [eG, eT]
        show (ttF R M pre ++ []).length ≤ (gvF R pre ++ []).length
        rw [List.append_nil, List.append_nil]
        exact I1
      · rw [esn, eG, eT, behind_line c1 c2, I2]
        show _ = (((seqM n R M).take (gvF R pre ++ []).length).drop (ttF R M pre ++ []).length).map _
        rw [List.append_nil, List.append_nil]
theorem ans_puts {s : L5} {d : Deed} (h : d.puts = true) : s.ans d = .non := by cases d <;> first | rfl | cases h
theorem Sorted.ans (S : Sorted n R M ks) (T : TF m n R M) {pre post : List Key} {x : Key} (e : ks = pre ++ x :: post) (I : LineAt m n R M pre) : (after (L5.first m) (recsOf R pre)).ans (R (pk x)).deed = (R (pk x)).ans := by
  have hxn := (key_step T (S.mem (x := x) (by rw [e]; simp))).1
  cases ht : (R (pk x)).deed.tells with
  | true => exact S.tell T e ht
  | false =>
    by_cases hk : (R (pk x)).deed = .take
    · exact (line_step S T e I).2 (isTk_iff.mpr hk)
    · have hp := puts_of ht hk
      rw [ans_puts hp, T.puts _ hxn hp]
theorem Sorted.run (S : Sorted n R M ks) (T : TF m n R M) {recs : List Rec} (hr : ∀ p, p < n → recs[p]? = some (R p)) : ∀ (post pre : List Key) (lt : Int), ks = pre ++ post → LineAt m n R M pre → (∀ z ∈ post, lt ≤ (z.1 : Int)) → runK recs (post.map pk) (after (L5.first m) (recsOf R pre)) lt = true
  | [], _, _, _, _, _ => rfl
  | x :: post, pre, lt, e, I, h => by
    obtain ⟨hxn, h1, h2⟩ := key_step T (S.mem (x := x) (by rw [e]; simp))
    have h3 := h x List.mem_cons_self
    have ih := S.run T hr post (pre ++ [x]) (if ((R (pk x)).beg : Int) > lt then (R (pk x)).beg else lt) (by rw [e, List.append_assoc]; rfl) (line_step S T e I).1 (fun z hz => by
      have h4 := h z (List.mem_cons_of_mem _ hz)
      have h5 : klt x z = true := by
        have := S.lt
        rw [e] at this
        exact (List.pairwise_cons.mp (List.pairwise_append.mp this).2.1).1 z hz
      have h6 := klt_iff.mp h5
      split <;> omega)
    have esn : after (L5.first m) (recsOf R (pre ++ [x])) = (after (L5.first m) (recsOf R pre)).behind (R (pk x)).hand (R (pk x)).deed := by
      show after _ ((pre ++ [x]).map _) = _
      rw [List.map_append]
      exact after_snoc _ _ _
    rw [esn] at ih
    show (match recs[pk x]? with | none => false | some r => _) = true
    rw [hr _ hxn]
    dsimp only
    rw [if_neg (by omega), if_pos (S.ans T e I)]
    exact ih
/-- the order keeps the records -/
theorem Sorted.keeps (S : Sorted n R M ks) (T : TF m n R M) {recs : List Rec} (hn : recs.length = n) (hr : ∀ p, p < n → recs[p]? = some (R p)) : keepsM recs (ks.map fun k => ((pk k : Nat) : Int)) m = true := by
  unfold keepsM
  have e1 : ks.map (fun k => ((pk k : Nat) : Int)) = (ks.map pk).map fun i : Nat => (i : Int) := by rw [List.map_map]; rfl
  have hp : (ks.map fun k => ((pk k : Nat) : Int)).Perm (rangeI recs.length) := by
    unfold rangeI
    rw [e1, hn]
    exact ((S.perm.map pk).trans (keys_perm T.toLF)).map _
  rw [if_pos hp]
  have e2 : (ks.map fun k => ((pk k : Nat) : Int)).map Int.toNat = ks.map pk := by
    rw [List.map_map]
    exact List.map_congr_left fun k _ => Int.toNat_natCast _
  rw [e2]
  exact S.run T hr ks [] (-1) rfl LineAt.nil fun z _ => by omega
end
end Sd

/-! a hall's order keeps its records -/
namespace Sd
def rec0 : Rec := ⟨0, .one, 0, 0, .non⟩
abbrev recN (recs : List Rec) (p : Nat) : Rec := recs.getD p rec0
abbrev markN (marks : List Mark) (p : Nat) : Mark := marks.getD p .non
theorem recN_at {recs : List Rec} {p : Nat} (h : p < recs.length) : recs[p]? = some (recN recs p) := by
  unfold recN
  rw [List.getD_eq_getElem?_getD, List.getElem?_eq_getElem h]
  rfl
theorem recN_of {recs : List Rec} {p : Nat} {r : Rec} (h : recs[p]? = some r) : recN recs p = r := getD_some h
theorem markN_at {marks : List Mark} {p : Nat} (h : p < marks.length) : marks[p]? = some (markN marks p) := by
  unfold markN
  rw [List.getD_eq_getElem?_getD, List.getElem?_eq_getElem h]
  rfl
theorem recs_map (recs : List Rec) : (List.range recs.length).map (recN recs) = recs := by
  refine List.ext_getElem? fun i => ?_
  rw [List.getElem?_map]
  by_cases h : i < recs.length
  · rw [List.getElem?_range h]
    exact (recN_at h).symm
  · rw [List.getElem?_eq_none (by rw [List.length_range]; omega), List.getElem?_eq_none (by omega)]
    rfl
theorem cellsAt_R {m : Nat} {C : List Chg} {K : Nat} : cellsAt m C K = cellsR m ((C.take K).map (·.r)) := by
  unfold cellsAt cellsR
  rw [List.foldl_map]
  rfl
theorem isChg4 {r : Rec} (h : isChg 4 r = true) : isGv r.deed = true := by
  unfold isChg at h
  rw [Bool.and_eq_true, beq_iff_eq] at h
  rcases line_thing h.2 with c | c
  · exact c
  · rw [(take_thing c).2.2.1] at h
    cases h.1
theorem chg4_of {r : Rec} (h : isGv r.deed = true) : isChg 4 r = true := by
  unfold isChg
  rw [(give_thing h).1, (give_thing h).2.2.1]
  rfl
section
variable {s : HallM} {G : Nat → List Chg}
abbrev HR (s : HallM) : Nat → Rec := recN s.recs
abbrev HM (s : HallM) : Nat → Mark := markN s.marks
theorem HallInv.chs_map (I : HallInv s G) (t : Nat) : (G t).map (·.r) = (chs s.recs.length (HR s) t).map (HR s) := by
  rw [I.erec t]
  unfold chs
  rw [← filter_map', recs_map]
theorem HallInv.chs_at (I : HallInv s G) {t q : Nat} {c : Chg} (h : (G t)[q]? = some c) : ∃ g : Nat, (chs s.recs.length (HR s) t)[q]? = some g ∧ HR s g = c.r := by
  have e := congrArg (·[q]?) (I.chs_map t)
  rw [List.getElem?_map, List.getElem?_map, h] at e
  obtain ⟨g, h1, h2⟩ := Option.map_eq_some_iff.mp e.symm
  exact ⟨g, h1, h2⟩
theorem HallInv.at_chs (I : HallInv s G) {t q g : Nat} (h : (chs s.recs.length (HR s) t)[q]? = some g) : ∃ c : Chg, (G t)[q]? = some c ∧ c.r = HR s g := by
  have e := congrArg (·[q]?) (I.chs_map t)
  rw [List.getElem?_map, List.getElem?_map, h] at e
  obtain ⟨c, h1, h2⟩ := Option.map_eq_some_iff.mp e
  exact ⟨c, h1, h2⟩
theorem HallInv.ends (I : HallInv s G) {p p' : Nat} (h : p < p') (h' : p' < s.recs.length) : (HR s p).fin < (HR s p').fin := by
  have hp := List.pairwise_iff_getElem.mp I.time.ends p p' (by omega) h' h
  have e1 : HR s p = _ := recN_of (List.getElem?_eq_getElem (show p < s.recs.length by omega))
  have e2 : HR s p' = _ := recN_of (List.getElem?_eq_getElem h')
  rw [e1, e2]
  exact hp
theorem HallInv.same_place (I : HallInv s G) {p p' : Nat} (h : p < s.recs.length) (h' : p' < s.recs.length) (e : HR s p = HR s p') : p = p' := by
  rcases Nat.lt_trichotomy p p' with c | c | c
  · have := I.ends c h'
    rw [e] at this
    exact absurd this (Nat.lt_irrefl _)
  · exact c
  · have := I.ends c h
    rw [e] at this
    exact absurd this (Nat.lt_irrefl _)
theorem chs_nodup {n : Nat} {R : Nat → Rec} {t : Nat} : (chs n R t).Nodup := (List.nodup_range (n := n)).sublist List.filter_sublist
theorem HallInv.fact (I : HallInv s G) {p : Nat} (h : p < s.recs.length) : Fact s.many G s.recs s.marks p (HR s p) (HM s p) := I.facts p _ _ (recN_at h) (markN_at (by rw [I.ml]; exact h))
/-- a give's place, and its mark -/
theorem HallInv.give_at (I : HallInv s G) {g : Nat} (h : g < s.recs.length) (hg : isGv (HR s g).deed = true) : ∃ (q : Nat) (c : Chg), (G 4)[q]? = some c ∧ c.r = HR s g ∧ (chs s.recs.length (HR s) 4)[q]? = some g ∧ HM s g = .gift c.r.hand (cnt (G 4) q c.r.hand) := by
  have e : ∃ n, (HR s g).deed = .give n := by
    cases z : (HR s g).deed <;> first | exact ⟨_, rfl⟩ | (rw [z] at hg; cases hg)
  obtain ⟨n, en⟩ := e
  obtain ⟨q, c, h1, h2, h3⟩ := (I.fact h).give n en
  obtain ⟨g', k1, k2⟩ := I.chs_at h1
  have hm := mem_chs.mp (List.mem_of_getElem? k1)
  have : g' = g := I.same_place hm.1 h (k2.trans h2)
  subst this
  exact ⟨q, c, h1, h2, k1, by rw [h3, h2]⟩
theorem HallInv.give_of (I : HallInv s G) {q : Nat} {c : Chg} (h : (G 4)[q]? = some c) : ∃ g : Nat, g < s.recs.length ∧ HR s g = c.r ∧ isGv (HR s g).deed = true ∧ HM s g = .gift c.r.hand (cnt (G 4) q c.r.hand) := by
  obtain ⟨g, h1, h2⟩ := I.chs_at h
  obtain ⟨h3, h4⟩ := mem_chs.mp (List.mem_of_getElem? h1)
  have h5 := isChg4 h4
  obtain ⟨q', c', k1, k2, k3, k4⟩ := I.give_at h3 h5
  have hq := nodup_at chs_nodup h1 k3
  subst hq
  rw [h] at k1
  cases k1
  exact ⟨g, h3, h2, h5, k4⟩
theorem HallInv.toldBy (I : HallInv s G) {p x k : Nat} (hp : p ≤ s.recs.length) (h : ToldBy s.recs s.marks p x k) : ∃ p', p' < p ∧ isTk (HR s p').deed = true ∧ HM s p' = .gift x k := by
  obtain ⟨p', r', h1, h2, h3, h4⟩ := h
  refine ⟨p', h1, ?_, getD_some h4⟩
  rw [show HR s p' = r' from recN_of h2]
  exact isTk_iff.mpr h3
theorem HallInv.byTold (I : HallInv s G) {p p' x k : Nat} (hp : p ≤ s.recs.length) (h1 : p' < p) (h2 : isTk (HR s p').deed = true) (h3 : HM s p' = .gift x k) : ToldBy s.recs s.marks p x k := by
  refine ⟨p', HR s p', h1, recN_at (by omega), isTk_iff.mp h2, ?_⟩
  rw [← h3]
  exact markN_at (by rw [I.ml]; omega)
theorem HallInv.tf (I : HallInv s G) : TF s.many s.recs.length (HR s) (HM s) := by
  have hk : ∀ p, p < s.recs.length → isTk (HR s p).deed = true → (HR s p).hand = 0 := fun p hp ht => by
    have hm : HR s p ∈ s.recs := List.mem_of_getElem? (recN_at hp)
    exact (I.plans _ _ (I.rok _ hm).2).2 (isTk_iff.mp ht)
  refine ⟨⟨fun p p' h h' => I.ends h h', fun p hp => I.time.beg _ (List.mem_of_getElem? (recN_at hp)), fun p p' h h' h1 h2 => ?_, fun p p' hp hp' h1 h2 e => ?_, fun p hp h1 => ?_, fun p hp h1 h2 => ?_, fun p hp h1 h2 => ?_⟩, fun p hp h1 => (I.fact hp).puts h1, fun p hp h1 => ?_⟩
  · have hp := List.pairwise_iff_getElem.mp I.time.own p p' (by omega) h' h
    have e1 := recN_of (List.getElem?_eq_getElem (show p < s.recs.length by omega))
    have e2 := recN_of (List.getElem?_eq_getElem h')
    rw [← e1, ← e2] at hp
    exact hp ((hk p (by omega) h1).trans (hk p' h' h2).symm)
  · obtain ⟨q, c, k1, k2, k3, k4⟩ := I.give_at hp h1
    obtain ⟨q', c', l1, l2, l3, l4⟩ := I.give_at hp' h2
    rw [k4, l4] at e
    injection e with e1 e2
    have hq : q = q' := by
      rcases Nat.lt_trichotomy q q' with z | z | z
      · have := cnt_lt k1 z
        rw [e1] at this e2
        omega
      · exact z
      · have := cnt_lt l1 z
        rw [← e1] at this e2
        omega
    subst hq
    rw [k3] at l3
    exact Option.some.inj l3
  · obtain ⟨q, c, k1, k2, k3, k4⟩ := I.give_at hp h1
    rw [k4]
    exact fun z => by cases z
  · rcases (I.fact hp).take (isTk_iff.mp h1) with ⟨z, _⟩ | ⟨q, c, k1, k2, k3, k4, k5, k6⟩
    · exact absurd z h2
    · obtain ⟨g, g1, g2, g3, g4⟩ := I.give_of k1
      refine ⟨g, g1, g3, by rw [g4, k2], by rw [k3, g2], by rw [g2]; exact k4, fun p' hp' ht e => k5 ?_, fun g' hg' gg' hf => ?_⟩
      · exact I.byTold (Nat.le_of_lt hp) hp' ht (by rw [e, k2])
      · obtain ⟨q', c', l1, l2, l3, l4⟩ := I.give_at hg' gg'
        obtain ⟨p', m1, m2, m3⟩ := I.toldBy (Nat.le_of_lt hp) (k6 q' c' l1 (by rw [l2, ← g2]; exact hf))
        exact ⟨p', m1, m2, m3.trans l4.symm⟩
  · rcases (I.fact hp).take (isTk_iff.mp h1) with ⟨_, z, k⟩ | ⟨q, c, k1, k2, _⟩
    · refine ⟨z, fun g' hg' gg' hf => ?_⟩
      obtain ⟨q', c', l1, l2, l3, l4⟩ := I.give_at hg' gg'
      obtain ⟨p', m1, m2, m3⟩ := I.toldBy (Nat.le_of_lt hp) (k q' c' l1 (by rw [l2]; exact hf))
      exact ⟨p', m1, m2, m3.trans l4.symm⟩
    · rw [k2] at h2
      cases h2
  · obtain ⟨K, k1, k2, k3, k4, k5⟩ := (I.fact hp).tells h1
    have hlen : (G (HR s p).deed.thing).length = (chs s.recs.length (HR s) (HR s p).deed.thing).length := by
      have := congrArg List.length (I.chs_map (HR s p).deed.thing)
      rw [List.length_map, List.length_map] at this
      exact this
    refine ⟨K, by rw [← hlen]; exact k1, k2, ?_, fun q c hq hK => ?_, fun q c hq hK => ?_⟩
    · rw [k3]
      have e : ((G (HR s p).deed.thing).take K).map (·.r) = ((chs s.recs.length (HR s) (HR s p).deed.thing).take K).map (HR s) := by
        rw [List.map_take, List.map_take, I.chs_map]
      unfold tellAns tellR
      rw [cellsAt_R, e] <;> (generalize cellsR s.many _ = cs; generalize (HR s p).deed = d; cases d <;> rfl)
    · obtain ⟨c', l1, l2⟩ := I.at_chs hq
      rw [← l2]
      exact k4 q c' l1 hK
    · obtain ⟨c', l1, l2⟩ := I.at_chs hq
      rw [← l2]
      exact k5 q c' l1 hK
/-- a hall's keys -/
def HallM.keys (s : HallM) : List Key := keysM s.recs.length (HR s) (HM s)
theorem HallInv.order (I : HallInv s G) {ks : List Key} (hp : ks.Perm s.keys) (hs : ks.Pairwise fun a b => klt b a = false) : keepsM s.recs (ks.map fun k => ((pk k : Nat) : Int)) s.many = true :=
  (Sorted.of I.tf.toLF hp hs).keeps I.tf rfl fun _ hp => recN_at hp
end
end Sd

/-! how many steps a deed takes; whose steps they are -/
namespace Sd
def mostN (m : Nat) (d : Deed) : Nat := m * rdMost m d + if d.puts = true then 1 else 0
theorem mostN_eq (m : Nat) (d : Deed) : (mostN m d : Int) = d.most m := by
  have e1 : ((m * (m + 1) : Nat) : Int) = (m : Int) * ((m : Int) + 1) := by rw [Int.natCast_mul, Int.natCast_add]; rfl
  cases d with
  | one => show ((m * 0 + 1 : Nat) : Int) = 1; omega
  | count => show ((m * 1 + 0 : Nat) : Int) = m; omega
  | give g => show ((m * 1 + 1 : Nat) : Int) = (m : Int) + 1; omega
  | take => show ((m * 2 + 0 : Nat) : Int) = 2 * (m : Int); omega
  | look => show ((m * (m + 1) + 0 : Nat) : Int) = (m : Int) * ((m : Int) + 1); rw [← e1]; omega
  | sum => show ((m * (m + 1) + 0 : Nat) : Int) = (m : Int) * ((m : Int) + 1); rw [← e1]; omega
  | top => show ((m * (m + 1) + 0 : Nat) : Int) = (m : Int) * ((m : Int) + 1); rw [← e1]; omega
  | set g => show ((m * (m + 1) + 1 : Nat) : Int) = (m : Int) * ((m : Int) + 1) + 1; rw [← e1]; omega
  | add g => show ((m * (m + 1) + 1 : Nat) : Int) = (m : Int) * ((m : Int) + 1) + 1; rw [← e1]; omega
  | rais g => show ((m * (m + 1) + 1 : Nat) : Int) = (m : Int) * ((m : Int) + 1) + 1; rw [← e1]; omega
theorem mostN_pos {m : Nat} (hm : 1 ≤ m) (d : Deed) : 1 ≤ mostN m d := by
  unfold mostN
  have h2 : ∀ k, 1 ≤ k → 1 ≤ m * k := fun k hk => Nat.mul_pos hm hk
  cases d with
  | one => exact Nat.le_add_left _ _
  | set g => exact Nat.le_add_left _ _
  | add g => exact Nat.le_add_left _ _
  | rais g => exact Nat.le_add_left _ _
  | give g => exact Nat.le_add_left _ _
  | count => exact h2 1 (by decide)
  | take => exact h2 2 (by decide)
  | look => exact h2 (m + 1) (by omega)
  | sum => exact h2 (m + 1) (by omega)
  | top => exact h2 (m + 1) (by omega)
theorem HallInv.steps_lt {s : HallM} {G : Nat → List Chg} (I : HallInv s G) {i : Nat} (hi : i < s.many) {d : Deed} (e : (s.plan i)[(s.hand i).ended]? = some d) : (s.hand i).steps < mostN s.many d := by
  by_cases hs : (s.hand i).steps = 0
  · rw [hs]
    exact mostN_pos I.m1 d
  · obtain ⟨⟨b, kss, kr, B⟩, _, _, hn, he⟩ := (I.hand i hi).busy hs d e
    have H := I.hists
    have hlt := B.lt
    unfold mostN
    rw [he]
    cases ho : (s.hand i).out with
    | none =>
      have := busy_none H hi B ho
      have h2 : s.many * ((s.hand i).readings.length + 1) ≤ s.many * rdMost s.many d := Nat.mul_le_mul_left _ this
      rw [Nat.mul_add] at h2
      omega
    | some o =>
      have hr := B.rdo (by rw [ho]; simp)
      have hl := busy_len H hi B
      have h2 : s.many * (s.hand i).readings.length ≤ s.many * rdMost s.many d := Nat.mul_le_mul_left _ hl
      have hp : d.puts = true := by
        have h1 := hn o ho
        have hm1 := I.m1
        refine puts_of ?_ fun z => ?_
        · cases ht : d.tells with
          | false => rfl
          | true =>
            have := (tells_sound H (by omega) ht B ho).1
            rw [this] at h1
            cases h1
        · subst z
          have := (take_told H (by omega) B ho).1
          rw [this] at h1
          cases h1
      rw [if_pos hp, hr, List.length_nil]
      omega
/-! a hand's step -/
theorem step_hand (many i now : Nat) (d : Deed) (boxes : List Int) (h : HandM) : (h.step many i d boxes now).touch.hand = i ∧
    (((h.step many i d boxes now).ended = none ∧ (h.step many i d boxes now).hand.steps = h.steps + 1 ∧ (h.step many i d boxes now).hand.ended = h.ended ∧ (h.step many i d boxes now).hand.beg = if h.steps = 0 then now else h.beg) ∨
    ∃ r mk, (h.step many i d boxes now).ended = some (r, mk) ∧ r.hand = i ∧ r.deed = d ∧ r.fin = now ∧ (r.beg = if h.steps = 0 then now else h.beg) ∧ (h.step many i d boxes now).hand.steps = 0 ∧ (h.step many i d boxes now).hand.ended = h.ended + 1) := by
  unfold HandM.step
  have f1 : (h.first many i d now).steps = h.steps + 1 := rfl
  have f2 : (h.first many i d now).ended = h.ended := (start_eq many i now d h).2.2.1
  have f3 : (h.first many i d now).beg = if h.steps = 0 then now else h.beg := by
    show (h.start many i d now).beg = _
    unfold HandM.start
    split <;> rfl
  generalize h.first many i d now = h1 at f1 f2 f3
  cases ho : h1.out with
  | some o =>
    rw [act_put ho]
    exact ⟨rfl, .inr ⟨_, _, rfl, rfl, rfl, rfl, f3, rfl, by show h1.ended + 1 = _; rw [f2]⟩⟩
  | none =>
    generalize hk : h1.keep many i d (boxes.getD (h1.place many d) 0) = h2
    have k1 := keep_eq2 many i d (boxes.getD (h1.place many d) 0) h1
    have k2 := (keep_eq many i d (boxes.getD (h1.place many d) 0) h1).2
    rw [hk] at k1 k2
    by_cases c : ∃ o, h2.out = some o ∧ o.num = none
    · obtain ⟨o, c1, c2⟩ := c
      rw [act_take1 ho hk c1 c2]
      exact ⟨rfl, .inr ⟨_, _, rfl, rfl, rfl, rfl, k2.trans f3, rfl, by show h2.ended + 1 = _; rw [k1.1, f2]⟩⟩
    · have hc : h2.out = none ∨ ∃ o, h2.out = some o ∧ o.num.isSome = true := by
        cases hh : h2.out with
        | none => exact .inl rfl
        | some o =>
          cases hn : o.num with
          | none => exact absurd ⟨o, hh, hn⟩ c
          | some n => exact .inr ⟨o, rfl, by rw [hn]; rfl⟩
      rw [act_take0 ho hk hc]
      exact ⟨rfl, .inl ⟨rfl, by show h2.steps = _; rw [k1.2.2, f1], by show h2.ended = _; rw [k1.1, f2], k2.trans f3⟩⟩
/-- the hall behind a step of hand i whose deed is d -/
structure Stepped (s s' : HallM) (i : Nat) (d : Deed) : Prop where
  plans : s'.plans = s.plans
  hl : s'.hands.length = s.hands.length
  touch : ∃ t, s'.touches = s.touches ++ [t] ∧ t.hand = i
  other : ∀ j, j ≠ i → s'.hand j = s.hand j
  own : (s'.recs = s.recs ∧ (s'.hand i).steps = (s.hand i).steps + 1 ∧ (s'.hand i).ended = (s.hand i).ended ∧ (s'.hand i).beg = if (s.hand i).steps = 0 then s.touches.length else (s.hand i).beg) ∨
    ∃ r, s'.recs = s.recs ++ [r] ∧ r.hand = i ∧ r.deed = d ∧ r.fin = s.touches.length ∧ (r.beg = if (s.hand i).steps = 0 then s.touches.length else (s.hand i).beg) ∧ (s'.hand i).steps = 0 ∧ (s'.hand i).ended = (s.hand i).ended + 1
theorem stepped_of {s : HallM} {i : Nat} {d : Deed} (hl : i < s.hands.length) (e : (s.plan i)[(s.hand i).ended]? = some d) : ∃ s', s.stepped i = some s' ∧ s.step i = s' ∧ Stepped s s' i d := by
  have e1 : s.stepped i = some (s.put i ((s.hand i).step s.many i d s.boxes s.touches.length)) := by
    unfold HallM.stepped
    rw [e]
    rfl
  refine ⟨_, e1, by unfold HallM.step; rw [e1]; rfl, ?_⟩
  obtain ⟨h1, h2⟩ := step_hand s.many i s.touches.length d s.boxes (s.hand i)
  have hh := HallM.put_hand (s := s) (i := i) (st := (s.hand i).step s.many i d s.boxes s.touches.length) hl
  generalize (s.hand i).step s.many i d s.boxes s.touches.length = st at h1 h2 hh
  refine ⟨rfl, List.length_set, ⟨_, rfl, h1⟩, fun j hj => by rw [hh j, if_neg hj], ?_⟩
  rw [hh i, if_pos rfl]
  rcases h2 with ⟨g1, g2, g3, g4⟩ | ⟨r, mk, g1, g2, g3, g4, g5, g6, g7⟩
  · exact .inl ⟨by show s.recs ++ _ = _; rw [g1]; exact List.append_nil _, g2, g3, g4⟩
  · exact .inr ⟨r, by show s.recs ++ _ = _; rw [g1]; rfl, g2, g3, g4, g5, g6, g7⟩
theorem stepped_none {s : HallM} {i : Nat} (e : (s.plan i)[(s.hand i).ended]? = none) : s.stepped i = none ∧ s.step i = s := by
  have e1 : s.stepped i = none := by
    unfold HallM.stepped
    rw [e]
  exact ⟨e1, by unfold HallM.step; rw [e1]; rfl⟩
theorem step_plans (s : HallM) (i : Nat) : (s.step i).plans = s.plans := by
  unfold HallM.step HallM.stepped
  cases (s.plan i)[(s.hand i).ended]? <;> rfl
theorem weave_plans (s : HallM) (row : List Nat) : (s.weave row).plans = s.plans := by
  unfold HallM.weave
  induction row generalizing s with
  | nil => rfl
  | cons i r ih => rw [List.foldl_cons, ih, step_plans]
/-! whose steps they are -/
/-- the numbers of hand i's steps, from lo up to hi -/
def ownIn (hs : List Nat) (i lo hi : Nat) : List Nat := (List.range hi).filter fun k => decide (lo ≤ k) && decide (hs[k]? = some i)
theorem ownIn_app {hs t : List Nat} {i lo hi : Nat} (h : hi ≤ hs.length) : ownIn (hs ++ t) i lo hi = ownIn hs i lo hi := by
  unfold ownIn
  refine List.filter_congr fun k hk => ?_
  rw [List.getElem?_append_left (by have := List.mem_range.mp hk; omega)]
theorem ownIn_snoc {hs : List Nat} {i j lo : Nat} (h : lo ≤ hs.length) : ownIn (hs ++ [j]) i lo (hs.length + 1) = if j = i then ownIn hs i lo hs.length ++ [hs.length] else ownIn hs i lo hs.length := by
  unfold ownIn
  have e1 : (hs ++ [j])[hs.length]? = some j := by rw [List.getElem?_append_right (Nat.le_refl _), Nat.sub_self]; rfl
  have e2 : (List.range hs.length).filter (fun k => decide (lo ≤ k) && decide ((hs ++ [j])[k]? = some i)) = (List.range hs.length).filter fun k => decide (lo ≤ k) && decide (hs[k]? = some i) := ownIn_app (hs := hs) (t := [j]) (Nat.le_refl _)
  rw [List.range_succ, List.filter_append, e2]
  by_cases c : j = i
  · rw [if_pos c, List.filter_cons_of_pos (by rw [e1, c, decide_eq_true h]; simp)]
    rfl
  · rw [if_neg c, List.filter_cons_of_neg (by rw [e1]; simp [c])]
    exact List.append_nil _
theorem ownIn_nil {hs : List Nat} {i hi : Nat} : ownIn hs i hi hi = [] := by
  unfold ownIn
  refine List.filter_eq_nil_iff.mpr fun k hk => ?_
  have := List.mem_range.mp hk
  rw [decide_eq_false (by omega)]
  exact Bool.false_ne_true
/-- where a hand's next deed can begin: behind its last record's end -/
def lo (recs : List Rec) (i : Nat) : Nat := (recs.filter fun r => r.hand == i).foldl (fun _ r => r.fin + 1) 0
theorem lo_snoc (recs : List Rec) (r : Rec) (i : Nat) : lo (recs ++ [r]) i = if r.hand = i then r.fin + 1 else lo recs i := by
  unfold lo
  rw [List.filter_append]
  by_cases c : r.hand = i
  · rw [if_pos c, List.filter_cons_of_pos (by simpa using c), List.foldl_append]
    rfl
  · rw [if_neg c, List.filter_cons_of_neg (by simpa using c), List.filter_nil, List.append_nil]
def handsOf (s : HallM) : List Nat := s.touches.map (·.hand)
structure Tm (s : HallM) : Prop where
  rec_ : ∀ p r, s.recs[p]? = some r → (ownIn (handsOf s) r.hand (lo (s.recs.take p) r.hand) (r.fin + 1)).head? = some r.beg ∧ (ownIn (handsOf s) r.hand (lo (s.recs.take p) r.hand) (r.fin + 1)).getLast? = some r.fin ∧
    (ownIn (handsOf s) r.hand (lo (s.recs.take p) r.hand) (r.fin + 1)).length ≤ mostN s.many r.deed ∧ r.fin < s.touches.length
  cur : ∀ i, i < s.many → (ownIn (handsOf s) i (lo s.recs i) s.touches.length).length = (s.hand i).steps ∧ ((s.hand i).steps ≠ 0 → (ownIn (handsOf s) i (lo s.recs i) s.touches.length).head? = some (s.hand i).beg) ∧ lo s.recs i ≤ s.touches.length ∧ ((s.hand i).steps ≠ 0 → (s.hand i).ended < (s.plan i).length)
theorem Tm.new (plans : List (List Deed)) : Tm (HallM.new plans) := by
  refine ⟨(fun p r e => nomatch e), fun i hi => ?_⟩
  have hi' : i < plans.length := hi
  have e : (HallM.new plans).hand i = HandM.new plans.length := by
    show (List.replicate plans.length (HandM.new plans.length)).getD i _ = _
    rw [List.getD_eq_getElem?_getD, List.getElem?_replicate_of_lt hi']
    rfl
  rw [e]
  exact ⟨rfl, fun z => absurd rfl z, Nat.le_refl _, fun z => absurd rfl z⟩
theorem Tm.step {s : HallM} {G : Nat → List Chg} (T : Tm s) (I : HallInv s G) {i : Nat} (hi : i < s.many) : Tm (s.step i) := by
  cases e : (s.plan i)[(s.hand i).ended]? with
  | none => rw [(stepped_none e).2]; exact T
  | some d =>
    obtain ⟨s', h1, h2, S⟩ := stepped_of (by rw [I.hl]; exact hi) e
    rw [h2]
    obtain ⟨t, ht, hti⟩ := S.touch
    have hm : s'.many = s.many := by unfold HallM.many; rw [S.plans]
    have eh : handsOf s' = handsOf s ++ [i] := by
      unfold handsOf
      rw [ht, List.map_append]
      show _ ++ [t.hand] = _
      rw [hti]
    have hlen : (handsOf s).length = s.touches.length := List.length_map ..
    have htl : s'.touches.length = s.touches.length + 1 := by rw [ht, List.length_append]; rfl
    have old : ∀ {j l h : Nat}, h ≤ s.touches.length → ownIn (handsOf s') j l h = ownIn (handsOf s) j l h := fun h => by rw [eh, ownIn_app (by rw [hlen]; exact h)]
    have new : ∀ {j l : Nat}, l ≤ s.touches.length → ownIn (handsOf s') j l (s.touches.length + 1) = if i = j then ownIn (handsOf s) j l s.touches.length ++ [s.touches.length] else ownIn (handsOf s) j l s.touches.length := fun {j l} h => by
      rw [eh, ← hlen, ownIn_snoc (by rw [hlen]; exact h)]
    obtain ⟨c1, c2, c3, c4⟩ := T.cur i hi
    have hpl : ∀ j, s'.plan j = s.plan j := fun j => by unfold HallM.plan; rw [S.plans]
    have hd : ∀ {l : List Nat} {x : Nat}, (l ++ [x]).head? = some (match l.head? with | none => x | some y => y) := fun {l x} => by cases l <;> rfl
    have lst : ∀ {l : List Nat} {x : Nat}, (l ++ [x]).getLast? = some x := fun {l x} => by rw [List.getLast?_append]; rfl
    have hbeg : (match (ownIn (handsOf s) i (lo s.recs i) s.touches.length).head? with | none => s.touches.length | some y => y) = if (s.hand i).steps = 0 then s.touches.length else (s.hand i).beg := by
      by_cases z : (s.hand i).steps = 0
      · rw [if_pos z]
        rw [z] at c1
        rw [List.eq_nil_of_length_eq_zero c1]
        rfl
      · rw [if_neg z, c2 z]
    rcases S.own with ⟨g1, g2, g3, g4⟩ | ⟨r, g1, g2, g3, g4, g5, g6, g7⟩
    · refine ⟨fun p r hp => ?_, fun j hj => ?_⟩
      · rw [g1] at hp ⊢
        obtain ⟨k1, k2, k3, k4⟩ := T.rec_ p r hp
        rw [old (by omega), hm, htl]
        exact ⟨k1, k2, k3, by omega⟩
      · rw [hm] at hj
        rw [g1, htl]
        obtain ⟨k1, k2, k3, k4⟩ := T.cur j hj
        rw [new k3, hpl]
        by_cases c : i = j
        · subst c
          rw [if_pos rfl, List.length_append, c1, g2, g4, g3]
          refine ⟨rfl, fun _ => ?_, by omega, fun _ => (List.getElem?_eq_some_iff.mp e).1⟩
          rw [hd, hbeg]
        · rw [if_neg c, S.other j (Ne.symm c)]
          exact ⟨k1, k2, by omega, k4⟩
    · refine ⟨fun p q hp => ?_, fun j hj => ?_⟩
      · rw [g1] at hp ⊢
        by_cases c : p < s.recs.length
        · rw [List.getElem?_append_left c] at hp
          rw [List.take_append_of_le_length (by omega)]
          obtain ⟨k1, k2, k3, k4⟩ := T.rec_ p q hp
          rw [old (by omega), hm, htl]
          exact ⟨k1, k2, k3, by omega⟩
        · have hpe : p = s.recs.length := by
            have := (List.getElem?_eq_some_iff.mp hp).1
            rw [List.length_append, List.length_singleton] at this
            omega
          subst hpe
          rw [List.getElem?_append_right (Nat.le_refl _), Nat.sub_self] at hp
          cases hp
          rw [List.take_left, g2, g4, new c3, if_pos rfl, hd, lst, hbeg, g5, List.length_append, c1, hm, htl, g3]
          have := I.steps_lt hi e
          exact ⟨rfl, rfl, this, by omega⟩
      · rw [hm] at hj
        rw [g1, htl, lo_snoc, g2, g4]
        by_cases c : i = j
        · subst c
          rw [if_pos rfl, g6, ownIn_nil]
          exact ⟨rfl, fun z => absurd rfl z, Nat.le_refl _, fun z => absurd rfl z⟩
        · obtain ⟨k1, k2, k3, k4⟩ := T.cur j hj
          rw [if_neg c, new k3, if_neg c, S.other j (Ne.symm c), hpl]
          exact ⟨k1, k2, by omega, k4⟩
theorem Tm.weave {s : HallM} (T : Tm s) (f : Fine s) : ∀ {row : List Nat}, (∀ i ∈ row, i < s.many) → Tm (s.weave row) := fun {row} => by
  induction row generalizing s with
  | nil => intro _; exact T
  | cons i row ih =>
    intro hr
    obtain ⟨G, I⟩ := f
    have hi := hr i List.mem_cons_self
    exact ih (T.step I hi) (Fine.step ⟨G, I⟩ hi) fun j hj => by rw [step_many]; exact hr j (List.mem_cons_of_mem _ hj)
end Sd

/-! one hand alone -/
namespace Sd
theorem mostN_le {m : Nat} (hm : m ≤ 4) (d : Deed) : mostN m d ≤ 21 := by
  have h1 : m * rdMost m d ≤ 20 := by
    have : rdMost m d ≤ 5 := rdMost_le hm
    calc m * rdMost m d ≤ 4 * 5 := Nat.mul_le_mul hm this
      _ ≤ 20 := by decide
  unfold mostN
  split <;> omega
/-- how many records a hand has -/
abbrev recsN (recs : List Rec) (i : Nat) : Nat := (recs.filter fun r => r.hand == i).length
theorem HallInv.recsN {s : HallM} {G : Nat → List Chg} (I : HallInv s G) {i : Nat} (hi : i < s.many) : Sd.recsN s.recs i = (s.hand i).ended := by
  have hI := I.hand i hi
  have := congrArg List.length hI.done
  rw [List.length_map, List.length_take, Nat.min_eq_left hI.le] at this
  exact this
/-- a deed of hand i underway, so many steps done; or it has ended -/
def Under (s : HallM) (i n k : Nat) : Prop := (s.hand i).ended = n ∧ (s.hand i).steps = k
theorem Under.step {s : HallM} {G : Nat → List Chg} (I : HallInv s G) {i n k : Nat} (hi : i < s.many) {d : Deed} (e : (s.plan i)[n]? = some d) (u : Under s i n k) : Under (s.step i) i n (k + 1) ∨ Under (s.step i) i (n + 1) 0 := by
  obtain ⟨u1, u2⟩ := u
  obtain ⟨s', h1, h2, S⟩ := stepped_of (by rw [I.hl]; exact hi) (by rw [u1]; exact e)
  rw [h2]
  rcases S.own with ⟨g1, g2, g3, g4⟩ | ⟨r, g1, g2, g3, g4, g5, g6, g7⟩
  · exact .inl ⟨by rw [g3, u1], by rw [g2, u2]⟩
  · exact .inr ⟨by rw [g7, u1], g6⟩
theorem Under.lt {s : HallM} {G : Nat → List Chg} (I : HallInv s G) {i n k : Nat} (hi : i < s.many) {d : Deed} (e : (s.plan i)[n]? = some d) (u : Under s i n k) : k < mostN s.many d := by
  have := I.steps_lt hi (d := d) (by rw [u.1]; exact e)
  rw [u.2] at this
  exact this
theorem step_touches1 (s : HallM) (i : Nat) : (s.step i).touches.length ≤ s.touches.length + 1 := step_touches s i
end Sd

/-! a weaving in parts, and what it tells -/
namespace Sd
theorem weave_append (s : HallM) (a b : List Nat) : s.weave (a ++ b) = (s.weave a).weave b := List.foldl_append ..
theorem weaved_append (s : HallM) (a b : List Nat) : s.weaved (a ++ b) = s.weaved a + (s.weave a).weaved b := by
  induction a generalizing s with
  | nil => exact (Nat.zero_add _).symm
  | cons i a ih =>
    show (if (s.stepped i).isSome then 1 else 0) + HallM.weaved (s.step i) (a ++ b) = (if (s.stepped i).isSome then 1 else 0) + HallM.weaved (s.step i) a + ((s.step i).weave a).weaved b
    rw [ih, Nat.add_assoc]
theorem step_told (s : HallM) (i : Nat) : (s.step i).touches.length = s.touches.length + if (s.stepped i).isSome then 1 else 0 := by
  unfold HallM.step
  cases h : s.stepped i with
  | none => rfl
  | some s' =>
    unfold HallM.stepped at h
    split at h
    · cases h
    · cases h
      show (s.touches ++ [_]).length = _
      rw [List.length_append]
      rfl
theorem weaved_touches (s : HallM) (row : List Nat) : (s.weave row).touches.length = s.touches.length + s.weaved row := by
  induction row generalizing s with
  | nil => rfl
  | cons i row ih =>
    show ((s.step i).weave row).touches.length = s.touches.length + ((if (s.stepped i).isSome then 1 else 0) + HallM.weaved (s.step i) row)
    rw [ih, step_told, Nat.add_assoc]
theorem Fine.fins {s : HallM} (f : Fine s) : s.recs.Pairwise fun a b => a.fin < b.fin := by
  obtain ⟨G, I⟩ := f
  exact I.time.ends
/-- a hand's last end -/
theorem foldl_last : ∀ {l : List Rec} {n : Nat}, l.Pairwise (fun a b => a.fin < b.fin) → ∀ r ∈ l, (∀ q ∈ l, q.fin ≤ r.fin) → l.foldl (fun _ r => r.fin + 1) n = r.fin + 1 := by
  intro l
  induction l with
  | nil => intro n _ r hr; cases hr
  | cons x l ih =>
    intro n hp r hr hm
    obtain ⟨h1, h2⟩ := List.pairwise_cons.mp hp
    show l.foldl (fun _ r => r.fin + 1) (x.fin + 1) = _
    rcases List.mem_cons.mp hr with rfl | hr
    · cases l with
      | nil => rfl
      | cons y l =>
        have := h1 y List.mem_cons_self
        have := hm y (List.mem_cons_of_mem _ List.mem_cons_self)
        omega
    · exact ih h2 r hr fun q hq => hm q (List.mem_cons_of_mem _ hq)
theorem lo_max {recs : List Rec} {i : Nat} (hp : recs.Pairwise fun a b => a.fin < b.fin) {z : Int} (h : z ∈ (recs.filter fun r => r.hand == i).map fun r => ((r.fin : Nat) : Int)) (hm : ∀ y ∈ (recs.filter fun r => r.hand == i).map fun r => ((r.fin : Nat) : Int), y ≤ z) : z + 1 = ((lo recs i : Nat) : Int) := by
  obtain ⟨r, hr, rfl⟩ := List.mem_map.mp h
  have := foldl_last (n := 0) (hp.filter _) r hr fun q hq => by
    have := hm _ (List.mem_map_of_mem hq)
    omega
  unfold lo
  rw [this]
  omega
theorem lo_nil {recs : List Rec} {i : Nat} (h : (recs.filter fun r => r.hand == i).map (fun r => ((r.fin : Nat) : Int)) = []) : lo recs i = 0 := by
  unfold lo
  rw [List.map_eq_nil_iff.mp h]
  rfl
/-- sorted anew is the same -/
theorem sorted_ints {a b : List Int} (h : a.Perm b) (ha : a.Pairwise (· ≤ ·)) (hb : b.Pairwise (· ≤ ·)) : a = b :=
  h.eq_of_pairwise (fun _ _ _ _ h1 h2 => Int.le_antisymm h1 h2) ha hb
/-- how far a row is done when it is done in sevens -/
def seven (k : Nat) : Nat := (k + 6) / 7 * 7
theorem seven_zero : seven 0 = 0 := rfl
theorem seven_at {k : Nat} (h : k % 7 = 0) : seven k = k ∧ seven (k + 1) = k + 7 := by
  unfold seven
  omega
theorem seven_else {k : Nat} (h : k % 7 ≠ 0) : seven (k + 1) = seven k := by
  unfold seven
  omega
theorem seven_le (k : Nat) : k ≤ seven k := by
  unfold seven
  omega
theorem take_seven {α : Type} (l : List α) (k : Nat) : l.take (k + 7) = l.take k ++ (l.drop k).take 7 := List.take_add
end Sd

/-! counts lie between -/
namespace Sd
theorem filter_le {α : Type} {l : List α} {P : α → Bool} {K : Nat} (h : ∀ q x, l[q]? = some x → K ≤ q → P x = false) : (l.filter P).length ≤ K := by
  have e : l.filter P = (l.take K).filter P := by
    have e1 := congrArg (List.filter P) (List.take_append_drop K l)
    rw [List.filter_append] at e1
    have e2 : (l.drop K).filter P = [] := List.filter_eq_nil_iff.mpr fun x hx => by
      obtain ⟨i, hi⟩ := List.getElem?_of_mem hx
      rw [List.getElem?_drop] at hi
      rw [h _ x hi (Nat.le_add_right _ _)]
      exact Bool.false_ne_true
    rw [e2, List.append_nil] at e1
    exact e1.symm
  rw [e]
  exact Nat.le_trans (List.length_filter_le _ _) (by rw [List.length_take]; omega)
theorem filter_ge {α : Type} {l : List α} {P : α → Bool} {K : Nat} (hK : K ≤ l.length) (h : ∀ q x, l[q]? = some x → q < K → P x = true) : K ≤ (l.filter P).length := by
  have e1 := congrArg (fun l => (List.filter P l).length) (List.take_append_drop K l)
  rw [List.filter_append, List.length_append] at e1
  have e2 : (l.take K).filter P = l.take K := List.filter_eq_self.mpr fun x hx => by
    obtain ⟨i, hi⟩ := List.getElem?_of_mem hx
    rw [List.getElem?_take] at hi
    split at hi
    · exact h i x hi (by assumption)
    · cases hi
  rw [e2, List.length_take] at e1
  omega
def isOne (r : Rec) : Bool := decide (r.deed = .one)
def isCount (r : Rec) : Bool := decide (r.deed = .count)
theorem isChg_zero (r : Rec) : isChg 0 r = isOne r := by
  unfold isChg isOne
  cases r.deed <;> rfl
section
variable {s : HallM} {G : Nat → List Chg}
theorem HallInv.ones (I : HallInv s G) : (G 0).map (·.r) = s.recs.filter isOne := by
  rw [I.erec 0]
  exact List.filter_congr fun r _ => isChg_zero r
theorem HallInv.one_at (I : HallInv s G) {q : Nat} {x : Rec} (h : (s.recs.filter isOne)[q]? = some x) : ∃ c, (G 0)[q]? = some c ∧ c.r = x := by
  rw [← I.ones, List.getElem?_map] at h
  exact Option.map_eq_some_iff.mp h
theorem HallInv.count_at (I : HallInv s G) {p : Nat} {r : Rec} (h : s.recs[p]? = some r) (hd : r.deed = .count) : ∃ K : Nat, r.ans = .int K ∧ K ≤ (s.recs.filter isOne).length ∧
    (∀ (q : Nat) (c : Chg), (G 0)[q]? = some c → q < K → c.r.fin < r.fin) ∧ (∀ (q : Nat) (c : Chg), (G 0)[q]? = some c → K ≤ q → r.beg < c.r.fin) := by
  have hl : p < s.marks.length := by rw [I.ml]; exact (List.getElem?_eq_some_iff.mp h).1
  obtain ⟨K, h1, _, h3, h4, h5⟩ := (I.facts p r _ h (markN_at hl)).tells (by rw [hd]; rfl)
  rw [hd] at h1 h3 h4 h5
  refine ⟨K, h3, ?_, h4, h5⟩
  rw [← I.ones, List.length_map]
  exact h1
theorem HallInv.count_ge (I : HallInv s G) {p : Nat} {r : Rec} (h : s.recs[p]? = some r) (hd : r.deed = .count) : ∃ K : Nat, r.ans = .int K ∧ ((s.recs.filter isOne).filter fun o => decide (o.fin < r.beg)).length ≤ K ∧ K ≤ ((s.recs.filter isOne).filter fun o => decide (o.beg < r.fin)).length ∧
    ∀ (p' : Nat) (o : Rec), s.recs[p']? = some o → o.deed = .count → o.fin < r.beg → ∃ K' : Nat, o.ans = .int K' ∧ K' ≤ K := by
  obtain ⟨K, h1, h2, h3, h4⟩ := I.count_at h hd
  refine ⟨K, h1, filter_le fun q x hq hK => ?_, filter_ge h2 fun q x hq hK => ?_, fun p' o hp' hd' hlt => ?_⟩
  · obtain ⟨c, hc, rfl⟩ := I.one_at hq
    have := h4 q c hc hK
    exact decide_eq_false (by omega)
  · obtain ⟨c, hc, rfl⟩ := I.one_at hq
    have := h3 q c hc hK
    have hb := I.time.beg c.r ((List.mem_filter.mp (List.mem_of_getElem? hq)).1)
    exact decide_eq_true (by omega)
  · obtain ⟨K', k1, k2, k3, k4⟩ := I.count_at hp' hd'
    refine ⟨K', k1, Nat.le_of_not_lt fun hlt2 => ?_⟩
    obtain ⟨x, hx⟩ : ∃ x, (s.recs.filter isOne)[K]? = some x := ⟨_, List.getElem?_eq_getElem (by omega)⟩
    obtain ⟨c, hc, rfl⟩ := I.one_at hx
    have a1 := k3 K c hc hlt2
    have a2 := h4 K c hc (Nat.le_refl _)
    omega
theorem HallInv.one_ans (I : HallInv s G) {r : Rec} (h : r ∈ s.recs) (hd : r.deed = .one) : r.ans = .non := by
  obtain ⟨p, hp⟩ := List.getElem?_of_mem h
  have hl : p < s.marks.length := by rw [I.ml]; exact (List.getElem?_eq_some_iff.mp hp).1
  exact (I.facts p r _ hp (markN_at hl)).puts (by rw [hd]; rfl)
end
end Sd

/-! touches: what boxes hold, whose they are -/
namespace Sd
theorem HallInv.boxes0 {s : HallM} {G : Nat → List Chg} (I : HallInv s G) {t j : Nat} (ht : t < 5) (hj : j < s.many) : 0 ≤ s.boxes.getD (t * s.many + j) 0 := by
  rw [I.box t j ht hj]
  have row : ∀ {n : Int} {r : List Int}, Row n r → In5 r → 0 ≤ n := fun {n r} h h5 => by
    rcases h.2 with e | ⟨e, _⟩
    · rw [e]
      have := enc_pos h5.six
      omega
    · omega
  by_cases h0 : t = 0
  · subst h0
    rw [oneRaw I.h0 _ (Nat.le_refl _)]
    omega
  · have hb := box_ok I.hists ht (k := (G t).length) (h := j) (Nat.le_refl _)
    unfold BoxOk at hb
    rw [if_neg h0] at hb
    by_cases h4 : t = 4
    · rw [if_pos h4] at hb
      obtain ⟨r, h1, h2, _⟩ := hb
      exact row h1 h2
    · rw [if_neg h4] at hb
      obtain ⟨r, h1, h2, _⟩ := hb
      exact row h1 h2
/-- what a box holds behind some touches -/
def lastAt (ts : List Touch) (pl : Nat) : Int := ts.foldl (fun b t => if t.place = pl then t.num else b) 0
theorem lastAt_snoc (ts : List Touch) (t : Touch) (pl : Nat) : lastAt (ts ++ [t]) pl = if t.place = pl then t.num else lastAt ts pl := by
  unfold lastAt
  rw [List.foldl_append]
  rfl
theorem step_touch (many i now : Nat) (d : Deed) (boxes : List Int) (h : HandM) :
    ((h.step many i d boxes now).touch.put = true ∧ (h.step many i d boxes now).touch.place = d.thing * many + i ∧ (h.step many i d boxes now).boxes = boxes.set (d.thing * many + i) (h.step many i d boxes now).touch.num) ∨
    ((h.step many i d boxes now).touch.put = false ∧ (h.step many i d boxes now).touch.place = d.thing * many + h.reading.length ∧ (h.step many i d boxes now).boxes = boxes ∧ (h.step many i d boxes now).touch.num = boxes.getD (d.thing * many + h.reading.length) 0) := by
  unfold HandM.step
  have f1 : (h.first many i d now).reading = h.reading := (start_eq many i now d h).2.1
  generalize h.first many i d now = h1 at f1
  have hp : h1.place many d = d.thing * many + h.reading.length := by
    unfold HandM.place
    rw [f1]
  unfold HandM.act
  split
  · exact .inl ⟨rfl, rfl, rfl⟩
  · rw [hp]
    split
    · exact .inr ⟨rfl, rfl, rfl, rfl⟩
    · split <;> exact .inr ⟨rfl, rfl, rfl, rfl⟩
structure Tc (s : HallM) : Prop where
  bx : ∀ pl, pl < 5 * s.many → s.boxes.getD pl 0 = lastAt s.touches pl
  ok : ∀ k t, s.touches[k]? = some t → t.hand < s.many ∧ t.place < 5 * s.many ∧ 0 ≤ t.num ∧ (t.put = true → t.place % s.many = t.hand) ∧ (t.put = false → t.num = lastAt (s.touches.take k) t.place)
  rec_ : ∀ r ∈ s.recs, ∀ k t, r.beg ≤ k → k ≤ r.fin → s.touches[k]? = some t → t.hand = r.hand → t.place / s.many = r.deed.thing
  cur : ∀ i, i < s.many → (s.hand i).steps ≠ 0 → ∀ d, (s.plan i)[(s.hand i).ended]? = some d → ∀ k t, (s.hand i).beg ≤ k → s.touches[k]? = some t → t.hand = i → t.place / s.many = d.thing
theorem Tc.new (plans : List (List Deed)) : Tc (HallM.new plans) := by
  refine ⟨fun pl hpl => ?_, (fun k t e => nomatch e), (fun r hr => nomatch hr), fun i hi hs d e k t _ ht => nomatch ht⟩
  show (List.replicate (5 * plans.length) (0 : Int)).getD pl 0 = 0
  rw [List.getD_eq_getElem?_getD, List.getElem?_replicate]
  split <;> rfl
theorem Tc.step {s : HallM} {G : Nat → List Chg} (T : Tc s) (I : HallInv s G) {i : Nat} (hi : i < s.many) : Tc (s.step i) := by
  cases e : (s.plan i)[(s.hand i).ended]? with
  | none => rw [(stepped_none e).2]; exact T
  | some d =>
    obtain ⟨s', h1, h2, S⟩ := stepped_of (by rw [I.hl]; exact hi) e
    rw [h2]
    have I' : ∃ G', HallInv s' G' := by
      have := Fine.step ⟨G, I⟩ hi
      rw [h2] at this
      exact this
    obtain ⟨G', I'⟩ := I'
    have P := I.pre hi e
    have hm : s'.many = s.many := by unfold HallM.many; rw [S.plans]
    have hpl : ∀ j, s'.plan j = s.plan j := fun j => by unfold HallM.plan; rw [S.plans]
    have h5 : d.thing < 5 := Nat.lt_succ_of_le d.thing_le
    -- the touch
    obtain ⟨t, hts, hth, hplace, hput, hb, htk⟩ : ∃ t : Touch, s'.touches = s.touches ++ [t] ∧ t.hand = i ∧ (∃ j, j < s.many ∧ t.place = d.thing * s.many + j) ∧ (t.put = true → t.place = d.thing * s.many + i) ∧
        (∀ pl, pl < 5 * s.many → s'.boxes.getD pl 0 = if t.place = pl then t.num else s.boxes.getD pl 0) ∧ (t.put = false → t.num = s.boxes.getD t.place 0) := by
      have e1 : s.stepped i = some (s.put i ((s.hand i).step s.many i d s.boxes s.touches.length)) := by
        unfold HallM.stepped
        rw [e]
        rfl
      rw [e1] at h1
      have h1 := Option.some.inj h1
      subst h1
      have ht := step_touch s.many i s.touches.length d s.boxes (s.hand i)
      have hh := (step_hand s.many i s.touches.length d s.boxes (s.hand i)).1
      generalize (s.hand i).step s.many i d s.boxes s.touches.length = st at ht hh
      refine ⟨st.touch, rfl, hh, ?_, ?_, fun pl hpl => ?_, ?_⟩
      · rcases ht with ⟨_, h, _⟩ | ⟨_, h, _⟩
        · exact ⟨i, hi, h⟩
        · exact ⟨_, P.rdl, h⟩
      · rcases ht with ⟨_, h, _⟩ | ⟨h, _⟩
        · exact fun _ => h
        · exact fun z => by rw [h] at z; cases z
      · show st.boxes.getD pl 0 = _
        rcases ht with ⟨_, a, b⟩ | ⟨_, a, b, c⟩
        · rw [b, a, List.getD_eq_getElem?_getD]
          by_cases c : d.thing * s.many + i = pl
          · rw [if_pos c, ← c, List.getElem?_set_self (by rw [P.bl]; omega)]
            rfl
          · rw [if_neg c, List.getElem?_set_ne c, List.getD_eq_getElem?_getD]
        · rw [b, a]
          by_cases z : d.thing * s.many + (s.hand i).reading.length = pl
          · rw [if_pos z, c, z]
          · rw [if_neg z]
      · rcases ht with ⟨h, _⟩ | ⟨_, a, _, c⟩
        · exact fun z => by rw [h] at z; cases z
        · exact fun _ => by rw [c, a]
    obtain ⟨j, hj, hpj⟩ := hplace
    have m0 : 0 < s.many := I.m1
    have hlt : t.place < 5 * s.many := by
      rw [hpj]
      have : (d.thing + 1) * s.many ≤ 5 * s.many := Nat.mul_le_mul_right _ h5
      rw [Nat.succ_mul] at this
      omega
    have hdv : t.place / s.many = d.thing := by
      rw [hpj, Nat.mul_comm, Nat.mul_add_div m0, Nat.div_eq_of_lt hj, Nat.add_zero]
    have htl : s'.touches.length = s.touches.length + 1 := by rw [hts, List.length_append]; rfl
    have old : ∀ {k : Nat} {u : Touch}, s'.touches[k]? = some u → (k < s.touches.length ∧ s.touches[k]? = some u) ∨ (k = s.touches.length ∧ u = t) := fun {k u} hk => by
      rw [hts] at hk
      by_cases c : k < s.touches.length
      · rw [List.getElem?_append_left c] at hk
        exact .inl ⟨c, hk⟩
      · have hl := (List.getElem?_eq_some_iff.mp hk).1
        rw [List.length_append, List.length_singleton] at hl
        have ek : k = s.touches.length := by omega
        subst ek
        rw [List.getElem?_append_right (Nat.le_refl _), Nat.sub_self] at hk
        cases hk
        exact .inr ⟨rfl, rfl⟩
    have cur' : ∀ k u, (s.hand i).beg ≤ k → s.touches[k]? = some u → u.hand = i → (s.hand i).steps ≠ 0 → u.place / s.many = d.thing := fun k u hb hu hh hs => T.cur i hi hs d e k u hb hu hh
    have now : ∀ b, (b = if (s.hand i).steps = 0 then s.touches.length else (s.hand i).beg) → ∀ k u, b ≤ k → s'.touches[k]? = some u → u.hand = i → u.place / s'.many = d.thing := fun b hb k u hk hu hh => by
      rw [hm]
      rcases old hu with ⟨h3, h4⟩ | ⟨_, h4⟩
      · by_cases z : (s.hand i).steps = 0
        · rw [if_pos z] at hb
          omega
        · rw [if_neg z] at hb
          exact cur' k u (by omega) h4 hh z
      · rw [h4]
        exact hdv
    refine ⟨fun pl hp => ?_, fun k u hu => ?_, fun r hr k u hb hf hu hh => ?_, fun i' hi' hs d' e' k u hb hu hh => ?_⟩
    · rw [hm] at hp
      rw [hb pl hp, hts, lastAt_snoc, T.bx pl hp]
    · rw [hm]
      rcases old hu with ⟨h3, h4⟩ | ⟨h3, h4⟩
      · obtain ⟨a, b, c, d1, d2⟩ := T.ok k u h4
        refine ⟨a, b, c, d1, fun z => ?_⟩
        rw [hts, List.take_append_of_le_length (by omega)]
        exact d2 z
      · subst h4
        refine ⟨by rw [hth]; exact hi, hlt, ?_, fun z => ?_, fun z => ?_⟩
        · have := I'.boxes0 h5 (by rw [hm]; exact hj)
          rw [hm, ← hpj, hb _ hlt, if_pos rfl] at this
          exact this
        · rw [hput z, hth, Nat.mul_comm, Nat.mul_add_mod, Nat.mod_eq_of_lt hi]
        · rw [h3, hts, List.take_left, htk z]
          exact T.bx _ hlt
    · rcases S.own with ⟨g1, g2, g3, g4⟩ | ⟨r', g1, g2, g3, g4, g5, g6, g7⟩
      · rw [g1] at hr
        have hf' := I.time.lt r hr
        rcases old hu with ⟨h3, h4⟩ | ⟨h3, h4⟩
        · rw [hm]
          exact T.rec_ r hr k u hb hf h4 hh
        · omega
      · rw [g1] at hr
        rcases List.mem_append.mp hr with hr | hr
        · have hf' := I.time.lt r hr
          rcases old hu with ⟨h3, h4⟩ | ⟨h3, h4⟩
          · rw [hm]
            exact T.rec_ r hr k u hb hf h4 hh
          · omega
        · rw [List.mem_singleton.mp hr] at hb hf hh ⊢
          rw [g2] at hh
          rw [g3]
          exact now _ g5 k u hb hu hh
    · rw [hm] at hi'
      rw [hpl] at e'
      by_cases c : i' = i
      · subst c
        rcases S.own with ⟨g1, g2, g3, g4⟩ | ⟨r', g1, g2, g3, g4, g5, g6, g7⟩
        · rw [g3, e] at e'
          cases e'
          exact now _ g4 k u hb hu hh
        · exact absurd g6 hs
      · rw [S.other i' c] at hs hb e'
        rw [hm]
        rcases old hu with ⟨h3, h4⟩ | ⟨h3, h4⟩
        · exact T.cur i' hi' hs d' e' k u hb h4 hh
        · rw [h4, hth] at hh
          exact absurd hh.symm c
theorem Tc.weave {s : HallM} (T : Tc s) (f : Fine s) : ∀ {row : List Nat}, (∀ i ∈ row, i < s.many) → Tc (s.weave row) := fun {row} => by
  induction row generalizing s with
  | nil => intro _; exact T
  | cons i row ih =>
    intro hr
    obtain ⟨G, I⟩ := f
    have hi := hr i List.mem_cons_self
    exact ih (T.step I hi) (Fine.step ⟨G, I⟩ hi) fun j hj => by rw [step_many]; exact hr j (List.mem_cons_of_mem _ hj)
end Sd

/-! one hand does its whole plan, then another one -/
namespace Sd
def sumMost (m : Nat) (l : List Deed) : Nat := l.foldl (fun n d => n + mostN m d) 0
theorem foldl_most (m : Nat) : ∀ (l : List Deed) (n : Nat), l.foldl (fun n d => n + mostN m d) n = n + sumMost m l
  | [], n => rfl
  | d :: l, n => by
    show l.foldl (fun n d => n + mostN m d) (n + mostN m d) = n + l.foldl (fun n d => n + mostN m d) (0 + mostN m d)
    rw [foldl_most m l, foldl_most m l (0 + mostN m d)]
    omega
theorem sumMost_snoc (m : Nat) (l : List Deed) (d : Deed) : sumMost m (l ++ [d]) = sumMost m l + mostN m d := by
  unfold sumMost
  rw [List.foldl_append]
  rfl
theorem sumMost_app (m : Nat) (l l' : List Deed) : sumMost m (l ++ l') = sumMost m l + sumMost m l' := by
  show (l ++ l').foldl _ 0 = _
  rw [List.foldl_append, foldl_most]
  rfl
theorem sumMost_le {m : Nat} (hm : m ≤ 4) : ∀ l : List Deed, sumMost m l ≤ 21 * l.length
  | [] => Nat.le_refl _
  | d :: l => by
    have h := sumMost_app m [d] l
    have h1 : sumMost m [d] = 0 + mostN m d := rfl
    have := sumMost_le hm l
    have := mostN_le hm d
    rw [List.singleton_append] at h
    rw [h, List.length_cons]
    omega
def Seq (s : HallM) : Prop := s.recs.Pairwise fun a b => a.fin < b.beg
def hd (r : Rec) : Nat × Deed := (r.hand, r.deed)
structure Alone (s0 s : HallM) (i n : Nat) : Prop where
  fine : Fine s
  plans : s.plans = s0.plans
  recs : ∃ R, s.recs = s0.recs ++ R ∧ ∀ r ∈ R, r.hand = i ∧ s0.touches.length ≤ r.beg
  go : (s.hand i).ended = (s.plan i).length ∨ n ≤ sumMost s.many ((s.plan i).take (s.hand i).ended) + (s.hand i).steps
  beg : (s.hand i).steps ≠ 0 → s0.touches.length ≤ (s.hand i).beg
  now : s0.touches.length ≤ s.touches.length
  other : ∀ j, j ≠ i → s.hand j = s0.hand j
theorem Alone.step {s0 s : HallM} {i n : Nat} (A : Alone s0 s i n) (hi : i < s.many) : Alone s0 (s.step i) i (n + 1) := by
  obtain ⟨G, I⟩ := id A.fine
  cases e : (s.plan i)[(s.hand i).ended]? with
  | none =>
    rw [(stepped_none e).2]
    have hle := (I.hand i hi).le
    have := List.getElem?_eq_none_iff.mp e
    exact ⟨A.fine, A.plans, A.recs, .inl (by omega), A.beg, A.now, A.other⟩
  | some d =>
    obtain ⟨s', h1, h2, S⟩ := stepped_of (by rw [I.hl]; exact hi) e
    have F' : Fine s' := h2 ▸ A.fine.step hi
    rw [h2]
    have hm : s'.many = s.many := by unfold HallM.many; rw [S.plans]
    have hpl : ∀ j, s'.plan j = s.plan j := fun j => by unfold HallM.plan; rw [S.plans]
    obtain ⟨t, ht, _⟩ := S.touch
    have hn : s0.touches.length ≤ s'.touches.length := by
      rw [ht, List.length_append]
      have := A.now
      omega
    have hlt := I.steps_lt hi e
    have hen := (List.getElem?_eq_some_iff.mp e).1
    have hbeg : ∀ b, (b = if (s.hand i).steps = 0 then s.touches.length else (s.hand i).beg) → s0.touches.length ≤ b := fun b hb => by
      rw [hb]
      split
      · exact A.now
      · exact A.beg (by assumption)
    have hot : ∀ j, j ≠ i → s'.hand j = s0.hand j := fun j hj => (S.other j hj).trans (A.other j hj)
    have go : n ≤ sumMost s.many ((s.plan i).take (s.hand i).ended) + (s.hand i).steps := by
      rcases A.go with h | h
      · omega
      · exact h
    rcases S.own with ⟨g1, g2, g3, g4⟩ | ⟨r, g1, g2, g3, g4, g5, g6, g7⟩
    · refine ⟨F', S.plans.trans A.plans, by rw [g1]; exact A.recs, .inr ?_, fun _ => hbeg _ g4, hn, hot⟩
      rw [hm, hpl, g2, g3]
      omega
    · obtain ⟨R, hR, hall⟩ := A.recs
      refine ⟨F', S.plans.trans A.plans, ⟨R ++ [r], by rw [g1, hR, List.append_assoc], fun q hq => ?_⟩, .inr ?_, fun z => absurd g6 z, hn, hot⟩
      · rcases List.mem_append.mp hq with hq | hq
        · exact hall q hq
        · rw [List.mem_singleton.mp hq]
          exact ⟨g2, hbeg _ g5⟩
      · rw [hm, hpl, g6, g7]
        have et : (s.plan i).take ((s.hand i).ended + 1) = (s.plan i).take (s.hand i).ended ++ [d] := by
          obtain ⟨a, b⟩ := List.getElem?_eq_some_iff.mp e
          rw [List.take_succ_eq_append_getElem a, b]
        rw [et, sumMost_snoc]
        omega
theorem Alone.weave {s0 s : HallM} {i n : Nat} (A : Alone s0 s i n) (hi : i < s.many) : ∀ k, Alone s0 (s.weave (List.replicate k i)) i (n + k) := by
  intro k
  induction k generalizing s n with
  | zero => exact A
  | succ k ih =>
    have h := ih (A.step hi) (by rw [step_many]; exact hi)
    have e : n + 1 + k = n + (k + 1) := by omega
    rw [e] at h
    exact h
/-- what a hand alone leaves behind -/
theorem alone {s : HallM} (F : Fine s) (Q : Seq s) {i : Nat} (hi : i < s.many) (h0 : (s.hand i).ended = 0) (h1 : (s.hand i).steps = 0) :
    Fine (s.weave (List.replicate (sumMost s.many (s.plan i)) i)) ∧ Seq (s.weave (List.replicate (sumMost s.many (s.plan i)) i)) ∧ (s.weave (List.replicate (sumMost s.many (s.plan i)) i)).plans = s.plans ∧
    (∀ j, j ≠ i → (s.weave (List.replicate (sumMost s.many (s.plan i)) i)).hand j = s.hand j) ∧
    (s.weave (List.replicate (sumMost s.many (s.plan i)) i)).recs.map hd = s.recs.map hd ++ (s.plan i).map fun d => (i, d) := by
  have A0 : Alone s s i 0 := ⟨F, rfl, ⟨[], (List.append_nil _).symm, fun _ h => nomatch h⟩, .inr (Nat.zero_le _), fun z => absurd h1 z, Nat.le_refl _, fun _ _ => rfl⟩
  have A := A0.weave hi (sumMost s.many (s.plan i))
  rw [Nat.zero_add] at A
  have hm : (s.weave (List.replicate (sumMost s.many (s.plan i)) i)).many = s.many := weave_many _ _
  generalize s.weave (List.replicate (sumMost s.many (s.plan i)) i) = s' at *
  have hpl : s'.plan i = s.plan i := by unfold HallM.plan; rw [A.plans]
  obtain ⟨G, I⟩ := id F
  obtain ⟨G', I'⟩ := id A.fine
  have hi' : i < s'.many := by rw [hm]; exact hi
  obtain ⟨R, hR, hall⟩ := A.recs
  have hend : (s'.hand i).ended = (s'.plan i).length := by
    rcases A.go with h | h
    · exact h
    · refine Classical.byContradiction fun c => ?_
      have hle := (I'.hand i hi').le
      have hlt : (s'.hand i).ended < (s'.plan i).length := by omega
      have e : (s'.plan i)[(s'.hand i).ended]? = some (s'.plan i)[(s'.hand i).ended] := List.getElem?_eq_getElem hlt
      generalize (s'.plan i)[(s'.hand i).ended] = d at e
      have h2 := I'.steps_lt hi' e
      have h3 := congrArg (sumMost s'.many) (List.take_append_drop ((s'.hand i).ended + 1) (s'.plan i))
      have et : (s'.plan i).take ((s'.hand i).ended + 1) = (s'.plan i).take (s'.hand i).ended ++ [d] := by
        obtain ⟨a, b⟩ := List.getElem?_eq_some_iff.mp e
        rw [List.take_succ_eq_append_getElem a, b]
      rw [sumMost_app, et, sumMost_snoc] at h3
      rw [← hm, ← hpl] at h
      omega
  have hdone := (I'.hand i hi').done
  have hdone0 := (I.hand i hi).done
  rw [h0, List.take_zero] at hdone0
  rw [hend, List.take_length, hR, List.filter_append, List.map_append, hdone0, List.nil_append] at hdone
  have eR : R.filter (fun r => r.hand == i) = R := List.filter_eq_self.mpr fun r hr => by
    rw [(hall r hr).1]
    exact beq_self_eq_true i
  rw [eR] at hdone
  refine ⟨A.fine, ?_, A.plans, A.other, ?_⟩
  · show s'.recs.Pairwise _
    rw [hR]
    refine List.pairwise_append.mpr ⟨Q, ?_, fun a ha b hb => ?_⟩
    · have ho := I'.time.own
      rw [hR] at ho
      exact List.Pairwise.imp_of_mem (fun {a b} ha hb h => h ((hall a ha).1.trans (hall b hb).1.symm)) (List.pairwise_append.mp ho).2.1
    · have := I.time.lt a ha
      have := (hall b hb).2
      omega
  · rw [hR, List.map_append, ← hpl, ← hdone, List.map_map]
    congr 1
    refine List.map_congr_left fun r hr => ?_
    show (r.hand, r.deed) = (i, r.deed)
    rw [(hall r hr).1]
/-- deeds one behind another keep one order -/
theorem run_lt {recs : List Rec} : ∀ (ps : List Nat) (s : L5) (lt : Int), runK recs ps s lt = true → ∀ p ∈ ps, ∃ r, recs[p]? = some r ∧ lt ≤ (r.fin : Int)
  | [], _, _, _, p, hp => nomatch hp
  | p :: ps, s, lt, h, q, hq => by
    have h' : (match recs[p]? with | none => false | some r => if (r.fin : Int) < lt then false else if s.ans r.deed = r.ans then runK recs ps (s.behind r.hand r.deed) (if (r.beg : Int) > lt then r.beg else lt) else false) = true := h
    cases e : recs[p]? with
    | none => rw [e] at h'; cases h'
    | some r =>
      rw [e] at h'
      dsimp only at h'
      by_cases c : (r.fin : Int) < lt
      · rw [if_pos c] at h'; cases h'
      · rw [if_neg c] at h'
        by_cases c2 : s.ans r.deed = r.ans
        · rw [if_pos c2] at h'
          rcases List.mem_cons.mp hq with rfl | hq
          · exact ⟨r, e, by omega⟩
          · obtain ⟨r', h1, h2⟩ := run_lt ps _ _ h' q hq
            refine ⟨r', h1, ?_⟩
            split at h2 <;> omega
        · rw [if_neg c2] at h'; cases h'
theorem run_pair {recs : List Rec} (hs : recs.Pairwise fun a b => a.fin < b.beg) : ∀ (ps : List Nat) (s : L5) (lt : Int), runK recs ps s lt = true → ps.Pairwise fun a b => a ≤ b
  | [], _, _, _ => .nil
  | p :: ps, s, lt, h => by
    have h' : (match recs[p]? with | none => false | some r => if (r.fin : Int) < lt then false else if s.ans r.deed = r.ans then runK recs ps (s.behind r.hand r.deed) (if (r.beg : Int) > lt then r.beg else lt) else false) = true := h
    cases e : recs[p]? with
    | none => rw [e] at h'; cases h'
    | some r =>
      rw [e] at h'
      dsimp only at h'
      by_cases c : (r.fin : Int) < lt
      · rw [if_pos c] at h'; cases h'
      · rw [if_neg c] at h'
        by_cases c2 : s.ans r.deed = r.ans
        · rw [if_pos c2] at h'
          refine List.Pairwise.cons (fun q hq => ?_) (run_pair hs ps _ _ h')
          obtain ⟨r', h1, h2⟩ := run_lt ps _ _ h' q hq
          refine Nat.le_of_not_lt fun hlt => ?_
          obtain ⟨a1, a2⟩ := List.getElem?_eq_some_iff.mp h1
          obtain ⟨b1, b2⟩ := List.getElem?_eq_some_iff.mp e
          have := List.pairwise_iff_getElem.mp hs q p a1 b1 hlt
          rw [a2, b2] at this
          split at h2 <;> omega
        · rw [if_neg c2] at h'; cases h'
theorem run_ans {recs : List Rec} : ∀ (ps : List Nat) (s : L5) (lt : Int), runK recs ps s lt = true → ∀ j p r, ps[j]? = some p → recs[p]? = some r → (after s ((ps.take j).map (recN recs))).ans r.deed = r.ans
  | [], _, _, _, j, p, r, hj, _ => nomatch hj
  | q :: ps, s, lt, h, j, p, r, hj, hp => by
    have h' : (match recs[q]? with | none => false | some r => if (r.fin : Int) < lt then false else if s.ans r.deed = r.ans then runK recs ps (s.behind r.hand r.deed) (if (r.beg : Int) > lt then r.beg else lt) else false) = true := h
    cases e : recs[q]? with
    | none => rw [e] at h'; cases h'
    | some r0 =>
      rw [e] at h'
      dsimp only at h'
      by_cases c : (r0.fin : Int) < lt
      · rw [if_pos c] at h'; cases h'
      · rw [if_neg c] at h'
        by_cases c2 : s.ans r0.deed = r0.ans
        · rw [if_pos c2] at h'
          cases j with
          | zero =>
            have ej : q = p := Option.some.inj hj
            subst ej
            rw [e] at hp
            cases hp
            exact c2
          | succ j =>
            have := run_ans ps _ _ h' j p r hj hp
            show (after s (recN recs q :: (ps.take j).map (recN recs))).ans r.deed = r.ans
            rw [recN_of e]
            exact this
        · rw [if_neg c2] at h'; cases h'
theorem take_recs {recs : List Rec} {j : Nat} : ((List.range recs.length).take j).map (recN recs) = recs.take j := by
  rw [List.map_take, recs_map]
theorem seq_order {recs : List Rec} {order : List Int} {m : Nat} (hs : recs.Pairwise fun a b => a.fin < b.beg) (hk : keepsM recs order m = true) :
    order = rangeI recs.length ∧ ∀ j r, recs[j]? = some r → (after (L5.first m) (recs.take j)).ans r.deed = r.ans := by
  unfold keepsM at hk
  by_cases hp : order.Perm (rangeI recs.length)
  · rw [if_pos hp] at hk
    have hpw := run_pair hs _ _ _ hk
    have hnn : ∀ x ∈ order, ((x.toNat : Nat) : Int) = x := fun x hx => by
      obtain ⟨i, rfl, _⟩ := mem_rangeI (hp.mem_iff.mp hx)
      rfl
    have eo : order = rangeI recs.length := by
      refine List.Perm.eq_of_pairwise (le := (· ≤ ·)) (fun a b _ _ h1 h2 => Int.le_antisymm h1 h2) ?_ (rangeI_sorted _) hp
      rw [List.pairwise_map] at hpw
      exact List.Pairwise.imp_of_mem (fun {a b} ha hb h => by
        have := hnn a ha
        have := hnn b hb
        omega) hpw
    refine ⟨eo, fun j r hj => ?_⟩
    have er : order.map Int.toNat = List.range recs.length := by
      rw [eo]
      unfold rangeI
      rw [List.map_map]
      exact (List.map_congr_left fun i _ => Int.toNat_natCast i).trans (List.map_id _)
    rw [er] at hk
    have hjl := (List.getElem?_eq_some_iff.mp hj).1
    have := run_ans _ _ _ hk j j r (List.getElem?_range hjl) hj
    rw [take_recs] at this
    exact this
  · rw [if_neg hp] at hk
    cases hk
theorem after_congr : ∀ {a b : List Rec} (s : L5), a.map hd = b.map hd → after s a = after s b
  | [], [], _, _ => rfl
  | [], _ :: _, _, h => nomatch h
  | _ :: _, [], _, h => nomatch h
  | x :: a, y :: b, s, h => by
    rw [List.map_cons, List.map_cons] at h
    injection h with h1 h2
    have e1 : x.hand = y.hand := congrArg Prod.fst h1
    have e2 : x.deed = y.deed := congrArg Prod.snd h1
    show after (s.behind x.hand x.deed) a = after (s.behind y.hand y.deed) b
    rw [e1, e2]
    exact after_congr _ h2
end Sd

/-! each gift once, in order -/
namespace Sd
section
variable {n : Nat} {R : Nat → Rec} {M : Nat → Mark}
def toldP (n : Nat) (R : Nat → Rec) (M : Nat → Mark) (p : Nat) : List Nat := (List.range p).filterMap (giver n R M)
abbrev gvI (n : Nat) (R : Nat → Rec) : List Nat := (List.range n).filter fun p => isGv (R p).deed
theorem toldP_all : toldP n R M n = told n R M := rfl
theorem toldP_succ (p : Nat) : toldP n R M (p + 1) = toldP n R M p ++ (giver n R M p).toList := by
  unfold toldP
  rw [List.range_succ, List.filterMap_append]
  congr 1
  all_goals (rw [List.filterMap_cons, List.filterMap_nil]; generalize giver n R M p = o; cases o <;> rfl)
theorem giver_some {p g : Nat} (h : giver n R M p = some g) : isTk (R p).deed = true ∧ M p ≠ .non := by
  unfold giver at h
  split at h
  · rename_i c
    rw [Bool.and_eq_true, decide_eq_true_iff] at c
    exact c
  · cases h
theorem mem_toldP {p g : Nat} : g ∈ toldP n R M p ↔ ∃ q, q < p ∧ giver n R M q = some g := by
  unfold toldP
  rw [List.mem_filterMap]
  constructor
  · rintro ⟨q, h1, h2⟩
    exact ⟨q, List.mem_range.mp h1, h2⟩
  · rintro ⟨q, h1, h2⟩
    exact ⟨q, List.mem_range.mpr h1, h2⟩
/-- a take that tells what a give has marked has taken it -/
theorem giver_of (L : LF n R M) {p g : Nat} (hp : p < n) (hg : g < n) (tk : isTk (R p).deed = true) (gg : isGv (R g).deed = true) (e : M p = M g) : giver n R M p = some g :=
  giver_eq L (mem_tt.mpr ⟨hp, tk, by rw [e]; exact L.gmark g hg gg⟩) hg gg e.symm
theorem told_gave (L : LF n R M) {p g : Nat} (hp : p ≤ n) (h : g ∈ toldP n R M p) : g < n ∧ isGv (R g).deed = true := by
  obtain ⟨q, h1, h2⟩ := mem_toldP.mp h
  obtain ⟨k1, k2⟩ := giver_some h2
  obtain ⟨e, g1, g2, _⟩ := gv_of L (mem_tt.mpr ⟨by omega, k1, k2⟩)
  rw [h2] at e
  rw [Option.some.inj e]
  exact ⟨g1, g2⟩
/-- what a take finds -/
theorem take_gift (L : LF n R M) {p : Nat} (hp : p < n) (tk : isTk (R p).deed = true) (hm : M p ≠ .non) : ∃ g, g < n ∧ isGv (R g).deed = true ∧ giver n R M p = some g ∧ (R p).ans = .int (giftOf (R g).deed) ∧ (R g).fin < (R p).fin ∧ g ∉ toldP n R M p ∧
    ∀ g', g' < n → isGv (R g').deed = true → (R g').fin < (R g).beg → g' ∈ toldP n R M p := by
  obtain ⟨e, g1, g2, g3, g4, g5, g6, g7⟩ := gv_of L (mem_tt.mpr ⟨hp, tk, hm⟩)
  refine ⟨gv n R M p, g1, g2, e, g4, g5, fun h => ?_, fun g' h1 h2 h3 => ?_⟩
  · obtain ⟨q, k1, k2⟩ := mem_toldP.mp h
    obtain ⟨j1, j2⟩ := giver_some k2
    obtain ⟨e', _, _, f3, _⟩ := gv_of L (mem_tt.mpr ⟨by omega, j1, j2⟩)
    rw [k2] at e'
    have e'' := Option.some.inj e'
    rw [← e''] at f3
    exact g6 q k1 j1 (f3.symm.trans g3)
  · obtain ⟨q, k1, k2, k3⟩ := g7 g' h1 h2 h3
    exact mem_toldP.mpr ⟨q, k1, giver_of L (by omega) h1 k2 h2 k3⟩
theorem take_none (L : LF n R M) {p : Nat} (hp : p < n) (tk : isTk (R p).deed = true) (hm : M p = .non) : (R p).ans = .non ∧ ((gvI n R).filter fun g => decide ((R g).fin < (R p).beg)).length ≤ (toldP n R M p).length := by
  obtain ⟨h1, h2⟩ := L.none p hp tk hm
  refine ⟨h1, List.Nodup.length_le_of_subset ((List.nodup_range.filter _).filter _) fun g hg => ?_⟩
  obtain ⟨k1, k2⟩ := List.mem_filter.mp hg
  obtain ⟨k3, k4⟩ := List.mem_filter.mp k1
  have k3 := List.mem_range.mp k3
  have k2 := of_decide_eq_true k2
  obtain ⟨q, q1, q2, q3⟩ := h2 g k3 k4 (by omega)
  exact mem_toldP.mpr ⟨q, q1, giver_of L (by omega) k3 q2 k4 q3⟩
/-- what is told ahead of a gift holds all that were given ahead of it -/
theorem told_split (L : LF n R M) {T1 T2 : List Nat} {g : Nat} (h : told n R M = T1 ++ g :: T2) : g < n ∧ isGv (R g).deed = true ∧ g ∉ T1 ∧ ∀ g', g' < n → isGv (R g').deed = true → (R g').fin < (R g).beg → g' ∈ T1 := by
  have hl : T1.length < (ttM n R M).length := by
    have := congrArg List.length h
    rw [told_map L, List.length_map, List.length_append, List.length_cons] at this
    omega
  obtain ⟨p, hp⟩ : ∃ p, (ttM n R M)[T1.length]? = some p := ⟨_, List.getElem?_eq_getElem hl⟩
  have hg : gv n R M p = g := by
    have := congrArg (·[T1.length]?) h
    rw [told_map L, List.getElem?_map, hp, List.getElem?_append_right (Nat.le_refl _), Nat.sub_self] at this
    exact Option.some.inj this
  have hmem := List.mem_of_getElem? hp
  obtain ⟨m1, m2, m3⟩ := mem_tt.mp hmem
  obtain ⟨e, g1, g2, g3, g4, g5, g6, g7⟩ := gv_of L hmem
  rw [hg] at g1 g2 g3 g7
  have nd := told_nodup L
  rw [h] at nd
  refine ⟨g1, g2, fun hh => ?_, fun g' h1 h2 h3 => ?_⟩
  · have := (List.nodup_append.mp nd).2.2 g hh g List.mem_cons_self
    exact this rfl
  · obtain ⟨q, k1, k2, k3⟩ := g7 g' h1 h2 h3
    have hq : q ∈ ttM n R M := mem_tt.mpr ⟨by omega, k2, by rw [k3]; exact L.gmark g' h1 h2⟩
    obtain ⟨i, hi⟩ := List.getElem?_of_mem hq
    have hit : i < T1.length := by
      refine Nat.lt_of_not_le fun hle => ?_
      rcases Nat.lt_or_eq_of_le hle with c | c
      · have := tt_lt hp hi c
        omega
      · rw [← c, hp] at hi
        have := Option.some.inj hi
        omega
    have hgq : gv n R M q = g' := by
      have e2 := giver_of L (by omega) h1 k2 h2 k3
      unfold gv
      rw [e2]
      rfl
    have := congrArg (·[i]?) h
    rw [told_map L, List.getElem?_map, hi, List.getElem?_append_left hit] at this
    rw [← hgq]
    exact List.mem_of_getElem? this.symm
/-- a hand's told gifts are its first ones -/
theorem told_first (L : LF n R M) (own : ∀ g g', g < g' → g' < n → (R g).hand = (R g').hand → (R g).fin < (R g').beg) (h : Nat) : ∀ (T2 T1 : List Nat), told n R M = T1 ++ T2 →
    T1.filter (fun g => (R g).hand == h) = ((gvI n R).filter fun g => (R g).hand == h).take (T1.filter fun g => (R g).hand == h).length → 
    (told n R M).filter (fun g => (R g).hand == h) = ((gvI n R).filter fun g => (R g).hand == h).take ((told n R M).filter fun g => (R g).hand == h).length
  | [], T1, e, hT => by
    rw [List.append_nil] at e
    rw [e]
    exact hT
  | g :: T2, T1, e, hT => by
    refine told_first L own h T2 (T1 ++ [g]) (by rw [e, List.append_assoc]; rfl) ?_
    obtain ⟨g1, g2, g3, g4⟩ := told_split L e
    rw [List.filter_append]
    by_cases c : (R g).hand = h
    · rw [List.filter_cons_of_pos (by simpa using c), List.filter_nil]
      have hA : g ∈ (gvI n R).filter fun g => (R g).hand == h := List.mem_filter.mpr ⟨List.mem_filter.mpr ⟨List.mem_range.mpr g1, g2⟩, by simpa using c⟩
      have pA : ((gvI n R).filter fun g => (R g).hand == h).Pairwise (· < ·) := (List.Pairwise.filter _ List.pairwise_lt_range).filter _
      have low : ∀ g' ∈ (gvI n R).filter (fun g => (R g).hand == h), g' < g → g' ∈ T1.filter fun g => (R g).hand == h := fun g' hg' hlt => by
        obtain ⟨k1, k2⟩ := List.mem_filter.mp hg'
        obtain ⟨k3, k4⟩ := List.mem_filter.mp k1
        have k3 := List.mem_range.mp k3
        have k5 : (R g').hand = h := by simpa using k2
        exact List.mem_filter.mpr ⟨g4 g' k3 k4 (own g' g hlt g1 (k5.trans c.symm)), k2⟩
      have nin : g ∉ T1.filter fun g => (R g).hand == h := fun z => g3 (List.mem_filter.mp z).1
      generalize (gvI n R).filter (fun g => (R g).hand == h) = A at *
      generalize T1.filter (fun g => (R g).hand == h) = B at *
      obtain ⟨t, ht, et⟩ := List.mem_iff_getElem.mp hA
      have hbl : B.length ≤ A.length := by
        have := congrArg List.length hT
        rw [List.length_take] at this
        omega
      have hle : B.length ≤ t := Nat.le_of_not_lt fun z => nin (by
        rw [hT, ← et]
        exact List.mem_take_iff_getElem.mpr ⟨t, by omega, rfl⟩)
      have hge : t ≤ B.length := Nat.le_of_not_lt fun z => by
        have h1 := List.pairwise_iff_getElem.mp pA B.length t (by omega) ht z
        have h2 := low (A[B.length]'(by omega)) (List.getElem_mem _) (by omega)
        have hBt : ∀ y ∈ B, y ∈ A.take B.length := fun y hy => by
          rw [← hT]
          exact hy
        obtain ⟨j, hj, ej⟩ := List.mem_take_iff_getElem.mp (hBt _ h2)
        have h3 := List.pairwise_iff_getElem.mp pA j B.length (by omega) (by omega) (by omega)
        omega
      have hteq : t = B.length := by omega
      rw [List.length_append, List.length_singleton]
      have e1 : A.take (B.length + 1) = A.take B.length ++ [A[B.length]'(by omega)] := List.take_succ_eq_append_getElem (by omega)
      rw [e1, ← hT]
      subst hteq
      rw [et]
    · rw [List.filter_cons_of_neg (by simpa using c), List.filter_nil, List.append_nil]
      exact hT
end
end Sd

/-! plans whose gifts are all different -/
namespace Sd
def GiftPlans (plans : List (List Deed)) : Prop := ∀ (i j : Nat) (d : Deed), (plans.getD i [])[j]? = some d → isGv d = true → i < 4 ∧ d = .give (13 * (j : Int) + (i : Int))
theorem nth_of {recs : List Rec} {g : Nat} {r : Rec} (h : recs[g]? = some r) : (recs.filter fun q => q.hand == r.hand)[((recs.take g).filter fun q => q.hand == r.hand).length]? = some r := by
  obtain ⟨h1, h2⟩ := List.getElem?_eq_some_iff.mp h
  have e : recs = recs.take g ++ r :: recs.drop (g + 1) := by
    rw [← h2, ← List.drop_eq_getElem_cons h1, List.take_append_drop]
  have e2 := congrArg (List.filter fun q => q.hand == r.hand) e
  rw [List.filter_append, List.filter_cons_of_pos (p := fun q : Rec => q.hand == r.hand) (beq_self_eq_true r.hand)] at e2
  rw [e2, List.getElem?_append_right (Nat.le_refl _), Nat.sub_self]
  rfl
theorem count_lt {recs : List Rec} {g g' : Nat} {r : Rec} (h : recs[g]? = some r) (hl : g < g') : ((recs.take g).filter fun q => q.hand == r.hand).length < ((recs.take g').filter fun q => q.hand == r.hand).length := by
  obtain ⟨h1, h2⟩ := List.getElem?_eq_some_iff.mp h
  have e : recs.take g' = recs.take g ++ ([r] ++ (recs.take g').drop (g + 1)) := by
    have e1 : recs.take g ++ [r] = (recs.take g').take (g + 1) := by
      rw [List.take_take, Nat.min_eq_left (by omega), List.take_succ_eq_append_getElem h1, h2]
    rw [← List.append_assoc, e1, List.take_append_drop]
  rw [e, List.filter_append, List.filter_append, List.length_append, List.length_append, List.filter_cons_of_pos (p := fun q : Rec => q.hand == r.hand) (beq_self_eq_true r.hand)]
  show _ < _ + (1 + 0 + _)
  omega
theorem HallInv.at_plan {s : HallM} {G : Nat → List Chg} (I : HallInv s G) {g : Nat} {r : Rec} (h : s.recs[g]? = some r) : (s.plan r.hand)[((s.recs.take g).filter fun q => q.hand == r.hand).length]? = some r.deed := by
  have hr := (I.rok r (List.mem_of_getElem? h)).1
  have hd := (I.hand r.hand hr).done
  have h1 := nth_of h
  have h2 := congrArg (·[((s.recs.take g).filter fun q => q.hand == r.hand).length]?) hd
  rw [List.getElem?_map, h1, List.getElem?_take] at h2
  split at h2
  · exact h2.symm
  · cases h2
theorem HallInv.gift_uniq {s : HallM} {G : Nat → List Chg} (I : HallInv s G) (P : GiftPlans s.plans) {g g' : Nat} {r r' : Rec} (h : s.recs[g]? = some r) (h' : s.recs[g']? = some r') (gg : isGv r.deed = true) (gg' : isGv r'.deed = true) (e : giftOf r.deed = giftOf r'.deed) : g = g' := by
  have a := I.at_plan h
  have a' := I.at_plan h'
  obtain ⟨b1, b2⟩ := P _ _ _ a gg
  obtain ⟨b1', b2'⟩ := P _ _ _ a' gg'
  rw [b2, b2'] at e
  have e : 13 * (((s.recs.take g).filter fun q => q.hand == r.hand).length : Int) + (r.hand : Int) = 13 * (((s.recs.take g').filter fun q => q.hand == r'.hand).length : Int) + (r'.hand : Int) := e
  have eh : r.hand = r'.hand := by omega
  have ec : ((s.recs.take g).filter fun q => q.hand == r.hand).length = ((s.recs.take g').filter fun q => q.hand == r'.hand).length := by omega
  rcases Nat.lt_trichotomy g g' with c | c | c
  · have := count_lt h c
    rw [← eh] at ec
    omega
  · exact c
  · have := count_lt h' c
    rw [eh] at ec
    omega
theorem filter_one {l : List Nat} {P : Nat → Bool} {g : Nat} (nd : l.Nodup) (hg : g ∈ l) (h : ∀ x ∈ l, P x = true ↔ x = g) : l.filter P = [g] := by
  induction l with
  | nil => cases hg
  | cons y l ih =>
    obtain ⟨n1, n2⟩ := List.nodup_cons.mp nd
    rcases List.mem_cons.mp hg with rfl | hg
    · rw [List.filter_cons_of_pos ((h g List.mem_cons_self).mpr rfl)]
      congr 1
      exact List.filter_eq_nil_iff.mpr fun x hx hp => n1 (((h x (List.mem_cons_of_mem _ hx)).mp hp) ▸ hx)
    · have hy : ¬ P y = true := fun z => n1 (((h y List.mem_cons_self).mp z).symm ▸ hg)
      rw [List.filter_cons_of_neg hy]
      exact ih n2 hg fun x hx => h x (List.mem_cons_of_mem _ hx)
end Sd

/-! views are of their time -/
namespace Sd
def isSet : Deed → Bool
  | .set _ => true
  | _ => false
theorem puts_one {d : Deed} : (d.puts && d.thing == 1) = isSet d := by cases d <;> rfl
theorem isChg_one (r : Rec) : isChg 1 r = isSet r.deed := by
  unfold isChg
  exact puts_one
def setOf : Deed → Int
  | .set n => n
  | _ => 0
section
variable {s : HallM} {G : Nat → List Chg}
abbrev setsH (recs : List Rec) (h : Nat) : List Rec := recs.filter fun r => r.hand == h && isSet r.deed
theorem HallInv.setsH (I : HallInv s G) (h : Nat) : ((G 1).map (·.r)).filter (fun r => r.hand == h) = Sd.setsH s.recs h := by
  rw [I.erec 1, List.filter_filter]
  exact List.filter_congr fun r _ => by rw [isChg_one]
theorem own_map {C : List Chg} {K h : Nat} : ((C.map (·.r)).take K).filter (fun r => r.hand == h) = (own C K h).map (·.r) := by
  unfold own
  rw [← List.map_take, List.filter_map]
  rfl
theorem HallInv.look_at (I : HallInv s G) {p : Nat} {r : Rec} (h : s.recs[p]? = some r) (hd : r.deed = .look) : ∃ K : Nat, r.ans = .view (cellsAt s.many (G 1) K) ∧ K ≤ (G 1).length ∧
    (∀ (q : Nat) (c : Chg), (G 1)[q]? = some c → q < K → c.r.fin < r.fin) ∧ (∀ (q : Nat) (c : Chg), (G 1)[q]? = some c → K ≤ q → r.beg < c.r.fin) := by
  have hl : p < s.marks.length := by rw [I.ml]; exact (List.getElem?_eq_some_iff.mp h).1
  obtain ⟨K, h1, _, h3, h4, h5⟩ := (I.facts p r _ h (markN_at hl)).tells (by rw [hd]; rfl)
  rw [hd] at h1 h3 h4 h5
  exact ⟨K, h3, h1, h4, h5⟩
/-- how old a look's cell is: how many of the hand's sets it saw -/
theorem HallInv.look_age (I : HallInv s G) {p : Nat} {r : Rec} (h : s.recs[p]? = some r) {K : Nat} (hK : K ≤ (G 1).length) (h4 : ∀ (q : Nat) (c : Chg), (G 1)[q]? = some c → q < K → c.r.fin < r.fin) (h5 : ∀ (q : Nat) (c : Chg), (G 1)[q]? = some c → K ≤ q → r.beg < c.r.fin) (i : Nat) :
    ((Sd.setsH s.recs i).filter fun o => decide (o.fin < r.beg)).length ≤ cnt (G 1) K i ∧ cnt (G 1) K i ≤ ((Sd.setsH s.recs i).filter fun o => decide (o.beg < r.fin)).length := by
  have hl : ((G 1).map (·.r)).length = (G 1).length := List.length_map ..
  have e : Sd.setsH s.recs i = (((G 1).map (·.r)).take K).filter (fun r => r.hand == i) ++ (((G 1).map (·.r)).drop K).filter (fun r => r.hand == i) := by
    rw [← I.setsH, ← List.filter_append, List.take_append_drop]
  have ec : cnt (G 1) K i = ((((G 1).map (·.r)).take K).filter (fun r => r.hand == i)).length := by
    rw [own_map, List.length_map]
    rfl
  rw [ec, e, List.filter_append, List.filter_append, List.length_append, List.length_append]
  constructor
  · have e0 : (((((G 1).map (·.r)).drop K).filter (fun r => r.hand == i)).filter fun o => decide (o.fin < r.beg)) = [] := List.filter_eq_nil_iff.mpr fun o ho => by
      obtain ⟨j, hj⟩ := List.getElem?_of_mem (List.mem_filter.mp ho).1
      rw [List.getElem?_drop, List.getElem?_map] at hj
      obtain ⟨c, hc, rfl⟩ := Option.map_eq_some_iff.mp hj
      have := h5 _ c hc (Nat.le_add_right _ _)
      rw [decide_eq_false (by omega)]
      exact Bool.false_ne_true
    rw [e0]
    exact List.length_filter_le _ _
  · have e0 : (((((G 1).map (·.r)).take K).filter (fun r => r.hand == i)).filter fun o => decide (o.beg < r.fin)) = (((G 1).map (·.r)).take K).filter (fun r => r.hand == i) := List.filter_eq_self.mpr fun o ho => by
      have hm := (List.mem_filter.mp ho).1
      obtain ⟨j, hj⟩ := List.getElem?_of_mem hm
      rw [List.getElem?_take] at hj
      split at hj
      · rw [List.getElem?_map] at hj
        obtain ⟨c, hc, rfl⟩ := Option.map_eq_some_iff.mp hj
        have h1 := h4 _ c hc (by assumption)
        have h2 : c.r ∈ s.recs.filter (isChg 1) := by
          rw [← I.erec 1]
          exact List.mem_map_of_mem (List.mem_of_getElem? hc)
        have := I.time.beg c.r (List.mem_filter.mp h2).1
        exact decide_eq_true (by omega)
      · cases hj
    rw [e0]
    omega
/-- a look behind another one saw no less -/
theorem HallInv.look_mono (I : HallInv s G) {r o : Rec} {K K' : Nat} (hK' : K' ≤ (G 1).length) (h5 : ∀ (q : Nat) (c : Chg), (G 1)[q]? = some c → K ≤ q → r.beg < c.r.fin) (k4 : ∀ (q : Nat) (c : Chg), (G 1)[q]? = some c → q < K' → c.r.fin < o.fin) (hlt : o.fin < r.beg) : K' ≤ K := by
  refine Nat.le_of_not_lt fun hlt2 => ?_
  obtain ⟨c, hc⟩ : ∃ c, (G 1)[K]? = some c := ⟨_, List.getElem?_eq_getElem (by omega)⟩
  have a1 := k4 K c hc hlt2
  have a2 := h5 K c hc (Nat.le_refl _)
  omega
/-- a cell is the last one set, 0 at first -/
theorem cell_last {m : Nat} {C : List Chg} (hC : ∀ c ∈ C, c.r.hand < m ∧ isSet c.r.deed = true) : ∀ K, K ≤ C.length → (cellsAt m C K).length = m ∧ ∀ h, h < m → (cellsAt m C K).getD h 0 = (((own C K h).getLast?).map fun c => setOf c.r.deed).getD 0
  | 0, _ => by
    refine ⟨List.length_replicate, fun h hh => ?_⟩
    show (List.replicate m (0 : Int)).getD h 0 = _
    rw [List.getD_eq_getElem?_getD, List.getElem?_replicate_of_lt hh]
    rfl
  | K + 1, hK => by
    obtain ⟨i1, i2⟩ := cell_last hC K (by omega)
    have hc : C[K]? = some (C[K]'(by omega)) := List.getElem?_eq_getElem _
    generalize C[K]'(by omega) = c at hc
    obtain ⟨a, b⟩ := List.getElem?_eq_some_iff.mp hc
    have et : C.take (K + 1) = C.take K ++ [c] := by rw [List.take_succ_eq_append_getElem a, b]
    obtain ⟨c1, c2⟩ := hC c (List.mem_of_getElem? hc)
    have ecell : cellsAt m C (K + 1) = (cellsAt m C K).set c.r.hand (behindCell ((cellsAt m C K).getD c.r.hand 0) c.r.deed) := by
      unfold cellsAt
      rw [et, List.foldl_append]
      rfl
    have eb : behindCell ((cellsAt m C K).getD c.r.hand 0) c.r.deed = setOf c.r.deed := by
      cases hd : c.r.deed <;> rw [hd] at c2 <;> first | rfl | cases c2
    rw [ecell, eb]
    refine ⟨by rw [List.length_set, i1], fun h hh => ?_⟩
    have eo : own C (K + 1) h = if c.r.hand = h then own C K h ++ [c] else own C K h := by
      unfold own
      rw [et, List.filter_append]
      by_cases z : c.r.hand = h
      · rw [if_pos z, List.filter_cons_of_pos (by simpa using z)]
        rfl
      · rw [if_neg z, List.filter_cons_of_neg (by simpa using z)]
        exact List.append_nil _
    rw [eo, List.getD_eq_getElem?_getD]
    by_cases z : c.r.hand = h
    · rw [if_pos z, z, List.getElem?_set_self (by rw [i1]; exact hh), List.getLast?_append]
      rfl
    · rw [if_neg z, List.getElem?_set_ne z, ← List.getD_eq_getElem?_getD]
      exact i2 h hh
/-- where a look's cell stands in 0 and the hand's sets -/
theorem HallInv.age_val (I : HallInv s G) {K : Nat} (hK : K ≤ (G 1).length) {i : Nat} (hi : i < s.many) : ((0 : Int) :: (Sd.setsH s.recs i).map fun r => setOf r.deed)[cnt (G 1) K i]? = some ((cellsAt s.many (G 1) K).getD i 0) := by
  have hC : ∀ c ∈ G 1, c.r.hand < s.many ∧ isSet c.r.deed = true := fun c hc => by
    have h2 : c.r ∈ s.recs.filter (isChg 1) := by
      rw [← I.erec 1]
      exact List.mem_map_of_mem hc
    obtain ⟨h3, h4⟩ := List.mem_filter.mp h2
    exact ⟨(I.rok c.r h3).1, by rw [← isChg_one]; exact h4⟩
  rw [(cell_last hC K hK).2 i hi]
  have e : Sd.setsH s.recs i = (own (G 1) K i).map (·.r) ++ (((G 1).map (·.r)).drop K).filter (fun r => r.hand == i) := by
    rw [← own_map, ← I.setsH, ← List.filter_append, List.take_append_drop]
  have ec : cnt (G 1) K i = (own (G 1) K i).length := rfl
  rw [ec, e]
  generalize own (G 1) K i = O
  cases hO : O.getLast? with
  | none =>
    rw [List.getLast?_eq_none_iff.mp hO]
    rfl
  | some c =>
    obtain ⟨O', rfl⟩ := List.getLast?_eq_some_iff.mp hO
    rw [List.length_append, List.length_singleton, List.getElem?_cons_succ, List.map_append, List.map_append, List.map_append, List.append_assoc, List.getElem?_append_right (by rw [List.length_map, List.length_map]; exact Nat.le_refl _), List.length_map, List.length_map, Nat.sub_self]
    rfl
def SetPlans (plans : List (List Deed)) : Prop := ∀ (i j : Nat) (d : Deed), (plans.getD i [])[j]? = some d → isSet d = true → i < 4 ∧ d = .set (1 + 11 * (j : Int) + (i : Int))
/-- a hand's sets are all different, and none is 0 -/
theorem HallInv.set_vals (I : HallInv s G) (P : SetPlans s.plans) (i : Nat) : ((0 : Int) :: (Sd.setsH s.recs i).map fun r => setOf r.deed).Pairwise (· < ·) := by
  have hp : ∀ g r, s.recs[g]? = some r → r.hand = i → isSet r.deed = true → setOf r.deed = 1 + 11 * ((((s.recs.take g).filter fun q => q.hand == i).length : Nat) : Int) + (i : Int) := fun g r hg hr hs => by
    have a := I.at_plan hg
    obtain ⟨_, b⟩ := P _ _ _ a hs
    have := congrArg setOf b
    rw [hr] at this
    exact this
  refine List.Pairwise.cons (fun z hz => ?_) ?_
  · obtain ⟨r, hr, rfl⟩ := List.mem_map.mp hz
    obtain ⟨h1, h2⟩ := List.mem_filter.mp hr
    rw [Bool.and_eq_true, beq_iff_eq] at h2
    obtain ⟨g, hg⟩ := List.getElem?_of_mem h1
    have := hp g r hg h2.1 h2.2
    omega
  · rw [List.pairwise_map]
    have hpw : s.recs.Pairwise fun a b => a.hand = i → isSet a.deed = true → b.hand = i → isSet b.deed = true → setOf a.deed < setOf b.deed := by
      refine List.pairwise_iff_getElem.mpr fun g g' h1 h2 hl a1 a2 b1 b2 => ?_
      have e1 := hp g _ (List.getElem?_eq_getElem h1) a1 a2
      have e2 := hp g' _ (List.getElem?_eq_getElem h2) b1 b2
      have hc := count_lt (List.getElem?_eq_getElem h1) hl
      rw [a1] at hc
      omega
    refine List.Pairwise.imp_of_mem (fun {a b} ha hb h => ?_) (hpw.filter _)
    have ha := (List.mem_filter.mp ha).2
    have hb := (List.mem_filter.mp hb).2
    rw [Bool.and_eq_true, beq_iff_eq] at ha hb
    exact h ha.1 ha.2 hb.1 hb.2
end
end Sd

/-! orders and answers told otherwise -/
namespace Sd
/-- no more records than deeds -/
theorem HallInv.recs_sum {s : HallM} {G : Nat → List Chg} (I : HallInv s G) : (s.recs.length : Int) ≤ (s.plans.map fun p => (p.length : Int)).sum := by
  rw [← I.sum]
  have h2 : sumH s.many (fun i => ((s.hand i).ended : Int)) ≤ sumH s.many fun i => ((s.plan i).length : Int) := sumH_le fun j hj => by
    have h3 := (I.hand j hj).le
    omega
  refine Int.le_trans h2 (Int.le_of_eq ?_)
  unfold sumH HallM.plan HallM.many
  congr 1
  refine List.ext_getElem (by rw [List.length_map, List.length_map, List.length_range]) fun i h1 h2 => ?_
  rw [List.length_map] at h2
  rw [List.getElem_map, List.getElem_map, List.getElem_range, List.getD_eq_getElem?_getD, List.getElem?_eq_getElem h2]
  rfl
/-- what no deed could have told -/
def oddOf : Deed → Ans
  | .count => .int (-1)
  | .sum => .int (-1)
  | .top => .int 1000
  | .look => .view [0, 0, 0, 0, 0]
  | .take => .int 1000
  | _ => .int 0
structure L5.Rng (s : L5) (m : Nat) : Prop where
  ones : 0 ≤ s.ones
  cells : s.cells.length = m
  adds : ∀ x ∈ s.adds, 0 ≤ x
  tops : ∀ x ∈ s.tops, 0 ≤ x ∧ x ≤ 999
  line : ∀ x ∈ s.line, 0 ≤ x ∧ x ≤ 999
theorem L5.Rng.first (m : Nat) : (L5.first m).Rng m :=
  ⟨Int.le_refl 0, List.length_replicate, fun x hx => by rw [List.eq_of_mem_replicate hx]; exact Int.le_refl 0, fun x hx => by rw [List.eq_of_mem_replicate hx]; decide, fun x hx => nomatch hx⟩
theorem getD_nn {l : List Int} (h : ∀ x ∈ l, 0 ≤ x) (i : Nat) : 0 ≤ l.getD i 0 := by
  rw [List.getD_eq_getElem?_getD]
  cases e : l[i]? with
  | none => exact Int.le_refl 0
  | some x => exact h x (List.mem_of_getElem? e)
theorem L5.Rng.behind {s : L5} {m : Nat} (o : s.Rng m) (h : Nat) {d : Deed} (hd : d.ok) : (s.behind h d).Rng m := by
  obtain ⟨o1, o2, o3, o4, o5⟩ := o
  cases d with
  | one => exact ⟨by show 0 ≤ s.ones + 1; omega, o2, o3, o4, o5⟩
  | set n => exact ⟨o1, by show (s.cells.set h n).length = m; rw [List.length_set, o2], o3, o4, o5⟩
  | add n =>
    refine ⟨o1, o2, fun x hx => ?_, o4, o5⟩
    rcases List.mem_or_eq_of_mem_set hx with e | e
    · exact o3 x e
    · have := getD_nn o3 h
      have := hd.1
      omega
  | rais n =>
    refine ⟨o1, o2, o3, fun x hx => ?_, o5⟩
    rcases List.mem_or_eq_of_mem_set hx with e | e
    · exact o4 x e
    · rw [e]
      have h1 := hd.1
      have h2 := hd.2
      have h3 : s.tops.getD h 0 ≤ 999 := by
        rw [List.getD_eq_getElem?_getD]
        cases e : s.tops[h]? with
        | none => decide
        | some x => exact (o4 x (List.mem_of_getElem? e)).2
      have h4 := getD_nn (fun x hx => (o4 x hx).1) h
      split <;> omega
  | give n =>
    refine ⟨o1, o2, o3, o4, fun x hx => ?_⟩
    rcases List.mem_append.mp hx with hx | hx
    · exact o5 x hx
    · rw [List.mem_singleton.mp hx]
      exact hd
  | take => exact ⟨o1, o2, o3, o4, fun x hx => o5 x (List.mem_of_mem_drop hx)⟩
  | _ => exact ⟨o1, o2, o3, o4, o5⟩
theorem sum_nn : ∀ {l : List Int}, (∀ x ∈ l, 0 ≤ x) → 0 ≤ l.sum
  | [], _ => Int.le_refl 0
  | x :: l, h => by
    have h1 := h x List.mem_cons_self
    have h2 := sum_nn (l := l) fun y hy => h y (List.mem_cons_of_mem _ hy)
    rw [List.sum_cons]
    omega
theorem L5.Rng.odd {s : L5} {m : Nat} (o : s.Rng m) (h4 : m ≤ 4) (d : Deed) : s.ans d ≠ oddOf d := by
  obtain ⟨o1, o2, o3, o4, o5⟩ := o
  intro e
  cases d with
  | count =>
    have e : Ans.int s.ones = Ans.int (-1) := e
    injection e with e
    omega
  | sum =>
    have e : Ans.int s.adds.sum = Ans.int (-1) := e
    injection e with e
    have := sum_nn o3
    omega
  | top =>
    have e : Ans.int (top0 s.tops) = Ans.int 1000 := e
    injection e with e
    have : top0 s.tops ≤ 999 := top0_le (by decide) fun x hx => (o4 x hx).2
    omega
  | look =>
    have e : Ans.view s.cells = Ans.view [0, 0, 0, 0, 0] := e
    injection e with e
    rw [e] at o2
    have : 5 = m := o2
    omega
  | take =>
    have e : (match s.line with | [] => Ans.non | g :: _ => Ans.int g) = Ans.int 1000 := e
    cases hl : s.line with
    | nil => rw [hl] at e; cases e
    | cons g r =>
      rw [hl] at e
      injection e with e
      have := o5 g (by rw [hl]; exact List.mem_cons_self)
      omega
  | one => cases e
  | set n => cases e
  | add n => cases e
  | rais n => cases e
  | give n => cases e
theorem after_rng {m : Nat} : ∀ {l : List Rec} {s : L5}, s.Rng m → (∀ r ∈ l, r.deed.ok) → (after s l).Rng m
  | [], _, o, _ => o
  | r :: l, s, o, h => after_rng (l := l) (s := s.behind r.hand r.deed) (o.behind r.hand (h r List.mem_cons_self)) fun q hq => h q (List.mem_cons_of_mem _ hq)
theorem keeps_run {recs : List Rec} {order : List Int} {m : Nat} (hk : keepsM recs order m = true) : order.Perm (rangeI recs.length) ∧ runK recs (order.map Int.toNat) (L5.first m) (-1) = true := by
  unfold keepsM at hk
  split at hk
  · exact ⟨by assumption, hk⟩
  · cases hk
theorem order_place {order : List Int} {n p : Nat} (hp : order.Perm (rangeI n)) (h : p < n) : ∃ j : Nat, (order.map Int.toNat)[j]? = some p := by
  have h1 : ((p : Nat) : Int) ∈ order := hp.mem_iff.mpr (List.mem_map_of_mem (List.mem_range.mpr h))
  obtain ⟨j, hj⟩ := List.getElem?_of_mem h1
  exact ⟨j, by rw [List.getElem?_map, hj]; rfl⟩
/-- an answer told otherwise -/
theorem keeps_odd {recs : List Rec} {order : List Int} {m : Nat} (hk : keepsM recs order m = true) {p : Nat} {r : Rec} (hr : recs[p]? = some r) {o : Ans} (ho : o ≠ r.ans) : keepsM (recs.set p { r with ans := o }) order m = false := by
  cases hb : keepsM (recs.set p { r with ans := o }) order m with
  | false => rfl
  | true =>
    exfalso
    obtain ⟨p1, r1⟩ := keeps_run hk
    obtain ⟨_, r2⟩ := keeps_run hb
    obtain ⟨hl, _⟩ := List.getElem?_eq_some_iff.mp hr
    obtain ⟨j, hj⟩ := order_place p1 hl
    have a1 := run_ans _ _ _ r1 j p r hj hr
    have a2 := run_ans _ _ _ r2 j p { r with ans := o } hj (List.getElem?_set_self hl)
    have ec : after (L5.first m) (((order.map Int.toNat).take j).map (recN (recs.set p { r with ans := o }))) = after (L5.first m) (((order.map Int.toNat).take j).map (recN recs)) := by
      refine after_congr _ ?_
      rw [List.map_map, List.map_map]
      refine List.map_congr_left fun q _ => ?_
      show hd (recN (recs.set p { r with ans := o }) q) = hd (recN recs q)
      by_cases c : p = q
      · subst c
        rw [recN_of hr, recN_of (List.getElem?_set_self hl)]
        rfl
      · unfold recN
        rw [List.getD_eq_getElem?_getD, List.getD_eq_getElem?_getD, List.getElem?_set_ne c]
    rw [ec] at a2
    have : (after (L5.first m) (((order.map Int.toNat).take j).map (recN recs))).ans r.deed = o := a2
    rw [a1] at this
    exact ho this.symm
theorem keeps_not_odd {recs : List Rec} {order : List Int} {m : Nat} (hk : keepsM recs order m = true) (h4 : m ≤ 4) (hok : ∀ r ∈ recs, RecOk m r) {p : Nat} {r : Rec} (hr : recs[p]? = some r) : oddOf r.deed ≠ r.ans := by
  obtain ⟨p1, r1⟩ := keeps_run hk
  obtain ⟨hl, _⟩ := List.getElem?_eq_some_iff.mp hr
  obtain ⟨j, hj⟩ := order_place p1 hl
  rw [← run_ans _ _ _ r1 j p r hj hr]
  refine (L5.Rng.odd (after_rng (L5.Rng.first m) fun q hq => ?_) h4 r.deed).symm
  obtain ⟨i, hi, rfl⟩ := List.mem_map.mp hq
  obtain ⟨x, hx, rfl⟩ := List.mem_map.mp (List.mem_of_mem_take hi)
  obtain ⟨k, rfl, hk2⟩ := mem_rangeI (p1.mem_iff.mp hx)
  exact (hok _ (List.mem_of_getElem? (recN_at hk2))).ok
/-- none stands behind one that began behind its end -/
theorem run_pair2 {recs : List Rec} : ∀ (ps : List Nat) (s : L5) (lt : Int), runK recs ps s lt = true → ps.Pairwise fun p q => ∀ a b, recs[p]? = some a → recs[q]? = some b → a.beg ≤ b.fin
  | [], _, _, _ => .nil
  | p :: ps, s, lt, h => by
    have h' : (match recs[p]? with | none => false | some r => if (r.fin : Int) < lt then false else if s.ans r.deed = r.ans then runK recs ps (s.behind r.hand r.deed) (if (r.beg : Int) > lt then r.beg else lt) else false) = true := h
    cases e : recs[p]? with
    | none => rw [e] at h'; cases h'
    | some r =>
      rw [e] at h'
      dsimp only at h'
      by_cases c : (r.fin : Int) < lt
      · rw [if_pos c] at h'; cases h'
      · rw [if_neg c] at h'
        by_cases c2 : s.ans r.deed = r.ans
        · rw [if_pos c2] at h'
          refine List.Pairwise.cons (fun q hq a b ha hb => ?_) (run_pair2 ps _ _ h')
          obtain ⟨r', h1, h2⟩ := run_lt ps _ _ h' q hq
          rw [e] at ha
          cases ha
          rw [hb] at h1
          cases h1
          split at h2 <;> omega
        · rw [if_neg c2] at h'; cases h'
theorem keeps_pair {recs : List Rec} {order : List Int} {m : Nat} (hk : keepsM recs order m = true) {i j : Nat} (hij : i < j) {p q : Nat} {a b : Rec} (hp : order[i]? = some (p : Int)) (hq : order[j]? = some (q : Int)) (ha : recs[p]? = some a) (hb : recs[q]? = some b) : a.beg ≤ b.fin := by
  obtain ⟨_, r1⟩ := keeps_run hk
  have h := run_pair2 _ _ _ r1
  rw [List.pairwise_map] at h
  obtain ⟨a1, a2⟩ := List.getElem?_eq_some_iff.mp hp
  obtain ⟨b1, b2⟩ := List.getElem?_eq_some_iff.mp hq
  have := List.pairwise_iff_getElem.mp h i j a1 b1 hij a b
  rw [a2, b2] at this
  exact this ha hb
/-- two places changed -/
theorem keeps_turned {recs : List Rec} {order : List Int} {m : Nat} {i j : Nat} (hij : i < j) {p q : Nat} {a b : Rec} (hp : order[i]? = some (p : Int)) (hq : order[j]? = some (q : Int)) (ha : recs[p]? = some a) (hb : recs[q]? = some b) (hlt : a.fin < b.beg) :
    keepsM recs ((order.set i (q : Int)).set j (p : Int)) m = false := by
  cases hk : keepsM recs ((order.set i (q : Int)).set j (p : Int)) m with
  | false => rfl
  | true =>
    exfalso
    obtain ⟨a1, a2⟩ := List.getElem?_eq_some_iff.mp hp
    obtain ⟨b1, b2⟩ := List.getElem?_eq_some_iff.mp hq
    have := keeps_pair hk hij (p := q) (q := p) (by rw [List.getElem?_set_ne (Nat.ne_of_gt hij), List.getElem?_set_self a1]) (by rw [List.getElem?_set_self (by rw [List.length_set]; exact b1)]) hb ha
    omega
/-- a hand's own steps of a record -/
theorem ownIn_le {hs : List Nat} {i l l' h : Nat} (hl : l' ≤ l) : (ownIn hs i l h).length ≤ (ownIn hs i l' h).length := by
  unfold ownIn
  rw [← List.countP_eq_length_filter, ← List.countP_eq_length_filter]
  refine List.countP_mono_left fun k _ hk => ?_
  rw [Bool.and_eq_true] at hk ⊢
  refine ⟨decide_eq_true ?_, hk.2⟩
  have := of_decide_eq_true hk.1
  omega
theorem filter_cut {ts : List Touch} {i b : Nat} : ∀ n, b + n ≤ ts.length → (((ts.drop b).take n).filter fun t => t.hand == i).length = ((List.range n).filter fun j => decide ((ts.map (·.hand))[b + j]? = some i)).length
  | 0, _ => by rw [List.take_zero]; rfl
  | n + 1, h => by
    have ih := filter_cut (ts := ts) (i := i) (b := b) n (by omega)
    have hl : n < (ts.drop b).length := by rw [List.length_drop]; omega
    rw [List.take_succ_eq_append_getElem hl, List.range_succ, List.filter_append, List.filter_append, List.length_append, List.length_append, ih]
    congr 1
    have eg : (ts.map (·.hand))[b + n]? = some (ts[b + n].hand) := by rw [List.getElem?_map, List.getElem?_eq_getElem (show b + n < ts.length by omega)]; rfl
    rw [List.getElem_drop]
    by_cases c : ts[b + n].hand = i
    · rw [List.filter_cons_of_pos (by rw [c]; exact beq_self_eq_true i), List.filter_cons_of_pos (by rw [eg, c]; exact decide_eq_true rfl)]
      rfl
    · rw [List.filter_cons_of_neg (by rw [beq_eq_false_iff_ne.mpr c]; exact Bool.false_ne_true), List.filter_cons_of_neg (by rw [eg]; exact fun z => c (Option.some.inj (of_decide_eq_true z)))]
      rfl
theorem ownIn_map_len {hs : List Nat} {i l h : Nat} (hl : l ≤ h) : (ownIn hs i l h).length = ((List.range (h - l)).filter fun j => decide (hs[l + j]? = some i)).length := by
  unfold ownIn
  rw [range_split hl, List.filter_append]
  have e1 : (List.range l).filter (fun k => decide (l ≤ k) && decide (hs[k]? = some i)) = [] := List.filter_eq_nil_iff.mpr fun k hk => by
    have := List.mem_range.mp hk
    rw [decide_eq_false (by omega)]
    exact Bool.false_ne_true
  rw [e1, List.nil_append, filter_map', List.length_map]
  congr 1
  refine List.filter_congr fun j _ => ?_
  rw [decide_eq_true (by omega : l ≤ l + j), Bool.true_and]
theorem own_short {s : HallM} (T : Tm s) {p : Nat} {r : Rec} (hr : s.recs[p]? = some r) (h : r.beg ≤ r.fin + 1) : (((s.touches.drop r.beg).take (r.fin + 1 - r.beg)).filter fun t => t.hand == r.hand).length ≤ mostN s.many r.deed ∧ r.fin < s.touches.length := by
  obtain ⟨h1, h2, h3, h4⟩ := T.rec_ p r hr
  refine ⟨Nat.le_trans (Nat.le_of_eq ?_) (Nat.le_trans (ownIn_le (l := r.beg) (l' := lo (s.recs.take p) r.hand) ?_) h3), h4⟩
  · rw [filter_cut _ (by omega), ← ownIn_map_len h]
    rfl
  · have hm := List.mem_of_mem_head? (Option.mem_def.mpr h1)
    have := (List.mem_filter.mp hm).2
    rw [Bool.and_eq_true, decide_eq_true_iff] at this
    exact this.1
end Sd

/-! an order is sought -/
namespace Sd
/-- deeds one behind another, none behind one that began behind its end -/
def GoodR : List Rec → St5 → Prop
  | [], _ => True
  | r :: rs, s => (∀ q ∈ r :: rs, r.beg ≤ q.fin) ∧ s.ans r.deed = r.ans ∧ GoodR rs (s.behind r.hand r.deed)
structure Alike (n : Nat) (a b : St5) : Prop where
  ones : a.ones = b.ones
  cells : a.cells = b.cells
  added : a.added = b.added
  top : a.top = b.top
  line : a.line.take n = b.line.take n
theorem Alike.symm {n : Nat} {a b : St5} (h : Alike n a b) : Alike n b a := ⟨h.ones.symm, h.cells.symm, h.added.symm, h.top.symm, h.line.symm⟩
def isTake (r : Rec) : Bool := decide (r.deed = .take)
def takes (rs : List Rec) : Nat := (rs.filter isTake).length
def St5.short (s : St5) (n : Nat) : St5 := { s with line := s.line.take n }
theorem Alike.short (s : St5) (n : Nat) : Alike n s (s.short n) := ⟨rfl, rfl, rfl, rfl, by show s.line.take n = (s.line.take n).take n; rw [List.take_take, Nat.min_self]⟩
theorem Alike.ans {n : Nat} {a b : St5} (h : Alike n a b) (d : Deed) (hn : d = .take → 1 ≤ n) : a.ans d = b.ans d := by
  obtain ⟨h1, h2, h3, h4, h5⟩ := h
  cases d with
  | count => exact congrArg Ans.int h1
  | look => exact congrArg Ans.view h2
  | sum => exact congrArg Ans.int h3
  | top => exact congrArg Ans.int h4
  | take =>
    have hn := hn rfl
    obtain ⟨n, rfl⟩ := Nat.exists_eq_add_of_le' hn
    show (match a.line with | [] => Ans.non | g :: _ => .int g) = (match b.line with | [] => Ans.non | g :: _ => .int g)
    cases ha : a.line with
    | nil =>
      cases hb : b.line with
      | nil => rfl
      | cons y l => rw [ha, hb] at h5; cases h5
    | cons x l =>
      cases hb : b.line with
      | nil => rw [ha, hb] at h5; cases h5
      | cons y l' =>
        rw [ha, hb, List.take_succ_cons, List.take_succ_cons] at h5
        injection h5 with h5
        rw [h5]
  | _ => rfl
theorem Alike.behind {n : Nat} {a b : St5} (h : Alike n a b) (i : Nat) (d : Deed) : Alike (if d = .take then n - 1 else n) (a.behind i d) (b.behind i d) := by
  obtain ⟨h1, h2, h3, h4, h5⟩ := h
  cases d with
  | one => exact ⟨congrArg (· + 1) h1, h2, h3, h4, h5⟩
  | set k => exact ⟨h1, by show a.cells.set i k = b.cells.set i k; rw [h2], h3, h4, h5⟩
  | add k => exact ⟨h1, h2, congrArg (· + k) h3, h4, h5⟩
  | rais k => exact ⟨h1, h2, h3, by show (if k > a.top then k else a.top) = _; rw [h4]; rfl, h5⟩
  | give k =>
    refine ⟨h1, h2, h3, h4, ?_⟩
    show (a.line ++ [k]).take n = (b.line ++ [k]).take n
    by_cases ca : a.line.length < n
    · have ea : a.line.take n = a.line := List.take_of_length_le (by omega)
      have lb : b.line.length = a.line.length := by
        have := congrArg List.length h5
        rw [List.length_take, List.length_take] at this
        omega
      have eb : b.line.take n = b.line := List.take_of_length_le (by omega)
      rw [ea, eb] at h5
      rw [h5]
    · have lb : n ≤ b.line.length := by
        have := congrArg List.length h5
        rw [List.length_take, List.length_take] at this
        omega
      rw [List.take_append_of_le_length (by omega), List.take_append_of_le_length lb, h5]
  | take =>
    refine ⟨h1, h2, h3, h4, ?_⟩
    show (a.line.drop 1).take (n - 1) = (b.line.drop 1).take (n - 1)
    have e : ∀ l : List Int, (l.drop 1).take (n - 1) = (l.take n).drop 1 := fun l => by rw [List.drop_take]
    rw [e, e, h5]
  | _ => exact ⟨h1, h2, h3, h4, h5⟩
theorem GoodR.alike : ∀ {rs : List Rec} {n : Nat} {a b : St5}, Alike n a b → takes rs ≤ n → GoodR rs a → GoodR rs b
  | [], _, _, _, _, _, _ => True.intro
  | r :: rs, n, a, b, h, ht, ⟨g1, g2, g3⟩ => by
    have et : takes (r :: rs) = (if r.deed = .take then takes rs + 1 else takes rs) := by
      unfold takes
      by_cases c : r.deed = .take
      · rw [if_pos c, List.filter_cons_of_pos (show isTake r = true from decide_eq_true c)]
        rfl
      · rw [if_neg c, List.filter_cons_of_neg (show ¬ isTake r = true from fun z => c (of_decide_eq_true z))]
    rw [et] at ht
    refine ⟨g1, ?_, GoodR.alike (h.behind r.hand r.deed) ?_ g3⟩
    · rw [← h.ans r.deed (fun c => by rw [if_pos c] at ht; omega)]
      exact g2
    · split at ht <;> rename_i c
      · rw [if_pos c]; omega
      · rw [if_neg c]; exact ht
theorem takes_perm {a b : List Rec} (h : a.Perm b) : takes a = takes b := (h.filter _).length_eq
theorem GoodR.short {rs : List Rec} {s : St5} {n : Nat} (ht : takes rs ≤ n) : GoodR rs s ↔ GoodR rs (s.short n) := ⟨GoodR.alike (Alike.short s n) ht, GoodR.alike (Alike.short s n).symm ht⟩
/-- the walk of judging, and this -/
theorem run_good {recs : List Rec} (hb : ∀ r ∈ recs, r.beg ≤ r.fin) : ∀ (ps : List Nat) (s : St5) (lt : Int), (∀ p ∈ ps, p < recs.length) → (runS recs ps s lt = true ↔ (∀ p ∈ ps, lt ≤ ((recN recs p).fin : Int)) ∧ GoodR (ps.map (recN recs)) s)
  | [], _, _, _ => ⟨fun _ => ⟨(fun p hp => nomatch hp), True.intro⟩, fun _ => rfl⟩
  | p :: ps, s, lt, hp => by
    have e := recN_at (hp p List.mem_cons_self)
    have hbp := hb _ (List.mem_of_getElem? e)
    have ih := run_good hb ps (s.behind (recN recs p).hand (recN recs p).deed) (if ((recN recs p).beg : Int) > lt then (recN recs p).beg else lt) fun q hq => hp q (List.mem_cons_of_mem _ hq)
    have h' : runS recs (p :: ps) s lt = (match recs[p]? with | none => false | some r => if (r.fin : Int) < lt then false else if s.ans r.deed = r.ans then runS recs ps (s.behind r.hand r.deed) (if (r.beg : Int) > lt then r.beg else lt) else false) := rfl
    rw [h', e]
    dsimp only
    have ef : (∀ q ∈ p :: ps, lt ≤ ((recN recs q).fin : Int)) ↔ lt ≤ ((recN recs p).fin : Int) ∧ ∀ q ∈ ps, lt ≤ ((recN recs q).fin : Int) := List.forall_mem_cons
    have eg : GoodR ((p :: ps).map (recN recs)) s ↔ (∀ q ∈ ps, (recN recs p).beg ≤ (recN recs q).fin) ∧ s.ans (recN recs p).deed = (recN recs p).ans ∧ GoodR (ps.map (recN recs)) (s.behind (recN recs p).hand (recN recs p).deed) := by
      show ((∀ q ∈ recN recs p :: ps.map (recN recs), (recN recs p).beg ≤ q.fin) ∧ _) ↔ _
      rw [List.forall_mem_cons, List.forall_mem_map]
      exact ⟨fun ⟨⟨_, h2⟩, h3⟩ => ⟨h2, h3⟩, fun ⟨h2, h3⟩ => ⟨⟨hbp, h2⟩, h3⟩⟩
    rw [ef, eg]
    by_cases c : ((recN recs p).fin : Int) < lt
    · rw [if_pos c]
      exact ⟨(fun z => nomatch z), fun ⟨⟨z, _⟩, _⟩ => by omega⟩
    · rw [if_neg c]
      by_cases c2 : s.ans (recN recs p).deed = (recN recs p).ans
      · rw [if_pos c2, ih]
        constructor
        · rintro ⟨h1, h2⟩
          refine ⟨⟨by omega, fun q hq => ?_⟩, fun q hq => ?_, c2, h2⟩
          · have := h1 q hq
            split at this <;> omega
          · have := h1 q hq
            split at this <;> omega
        · rintro ⟨⟨_, h1⟩, h2, _, h3⟩
          refine ⟨fun q hq => ?_, h3⟩
          have := h1 q hq
          have := h2 q hq
          split <;> omega
      · rw [if_neg c2]
        exact ⟨(fun z => nomatch z), fun ⟨_, _, z, _⟩ => absurd z c2⟩
/-- places of records -/
abbrev natI (ps : List Nat) : List Int := ps.map fun i : Nat => (i : Int)
theorem natI_toNat (ps : List Nat) : (natI ps).map Int.toNat = ps := by
  unfold natI
  rw [List.map_map]
  exact (List.map_congr_left fun i _ => Int.toNat_natCast i).trans (List.map_id _)
theorem natI_inj {a b : List Nat} (h : natI a = natI b) : a = b := by
  rw [← natI_toNat a, ← natI_toNat b, h]
theorem keeps_good {recs : List Rec} {ps : List Nat} {m : Nat} (hb : ∀ r ∈ recs, r.beg ≤ r.fin) (hok : ∀ r ∈ recs, RecOk m r) (hl : recs.length ≤ 9000) (hp : ps.Perm (List.range recs.length)) :
    keepsM recs (natI ps) m = true ↔ GoodR (ps.map (recN recs)) (St5.first m) := by
  have hp2 : (natI ps).Perm (rangeI recs.length) := hp.map _
  rw [keepsS hok hl hp2, natI_toNat, run_good hb ps _ _ fun p h => List.mem_range.mp (hp.mem_iff.mp h)]
  exact ⟨fun h => h.2, fun h => ⟨fun p _ => by omega, h⟩⟩
/-- an order of records comes from one of places -/
theorem perm_places {α β : Type} {f : α → β} : ∀ {rs : List β} {l : List α}, rs.Perm (l.map f) → ∃ ps : List α, ps.Perm l ∧ ps.map f = rs
  | [], l, h => by
    have := List.nil_perm.mp h
    rw [List.map_eq_nil_iff] at this
    exact ⟨[], by rw [this], rfl⟩
  | r :: rs, l, h => by
    obtain ⟨x, hx, e⟩ := List.mem_map.mp (h.mem_iff.mp List.mem_cons_self)
    obtain ⟨l1, l2, el⟩ := List.append_of_mem hx
    have h2 : rs.Perm ((l1 ++ l2).map f) := by
      have h3 : l.Perm (x :: (l1 ++ l2)) := by rw [el]; exact List.perm_middle
      have h4 : (r :: rs).Perm (r :: (l1 ++ l2).map f) := by
        have := h.trans (h3.map f)
        rw [List.map_cons, e] at this
        exact this
      exact h4.cons_inv
    obtain ⟨ps, p1, p2⟩ := perm_places h2
    refine ⟨x :: ps, ?_, by rw [List.map_cons, e, p2]⟩
    rw [el]
    exact (p1.cons x).trans List.perm_middle.symm
/-- there is an order -/
def HasOrder (recs : List Rec) (m : Nat) : Prop := ∃ rs : List Rec, rs.Perm recs ∧ GoodR rs (St5.first m)
theorem recs_range (recs : List Rec) : (List.range recs.length).map (recN recs) = recs := recs_map recs
theorem HasOrder.places {recs : List Rec} {m : Nat} : HasOrder recs m ↔ ∃ ps : List Nat, ps.Perm (List.range recs.length) ∧ GoodR (ps.map (recN recs)) (St5.first m) := by
  constructor
  · rintro ⟨rs, h1, h2⟩
    rw [← recs_range recs] at h1
    obtain ⟨ps, p1, p2⟩ := perm_places h1
    exact ⟨ps, p1, by rw [p2]; exact h2⟩
  · rintro ⟨ps, h1, h2⟩
    refine ⟨_, ?_, h2⟩
    have := h1.map (recN recs)
    rwa [recs_range] at this
theorem HasOrder.perm {a b : List Rec} {m : Nat} (h : a.Perm b) : HasOrder a m → HasOrder b m := fun ⟨rs, h1, h2⟩ => ⟨rs, h1.trans h, h2⟩
/-- what is left -/
def leftOf (n : Nat) (order : List Nat) : List Nat := (List.range n).filter fun p => !decide (p ∈ order)
theorem left_snoc (n : Nat) {order : List Nat} {p : Nat} (hp : p ∈ leftOf n order) : (leftOf n order).Perm (p :: leftOf n (order ++ [p])) := by
  have nd : (leftOf n order).Nodup := List.Pairwise.filter _ List.nodup_range
  have e : leftOf n (order ++ [p]) = (leftOf n order).filter fun q => decide (q ≠ p) := by
    unfold leftOf
    rw [List.filter_filter]
    refine List.filter_congr fun q _ => ?_
    by_cases c1 : q ∈ order <;> by_cases c2 : q = p <;> simp [c1, c2]
  rw [e]
  clear e
  generalize leftOf n order = L at *
  induction L with
  | nil => cases hp
  | cons q l ih =>
    rw [List.nodup_cons] at nd
    by_cases c : q = p
    · subst c
      rw [List.filter_cons_of_neg (by simp)]
      refine (List.Perm.of_eq ?_).cons q
      symm
      refine List.filter_eq_self.mpr fun x hx => ?_
      have hne : x ≠ q := fun z => nd.1 (by rw [← z]; exact hx)
      simpa using hne
    · rw [List.filter_cons_of_pos (by simpa using c)]
      rcases List.mem_cons.mp hp with e | hp
      · exact absurd e.symm c
      · exact ((ih hp nd.2).cons q).trans (List.Perm.swap ..)
theorem left_len {n : Nat} {order : List Nat} (nd : order.Nodup) (h : ∀ p ∈ order, p < n) : (leftOf n order).length + order.length = n := by
  have p : ((List.range n).filter (fun p => decide (p ∈ order))).Perm order := by
    refine (List.perm_ext_iff_of_nodup (List.Pairwise.filter _ List.nodup_range) nd).mpr fun a => ?_
    rw [List.mem_filter, List.mem_range, decide_eq_true_eq]
    exact ⟨fun z => z.2, fun z => ⟨h a z, z⟩⟩
  have e : ((List.range n).filter (fun p => decide (p ∈ order))).length + (leftOf n order).length = n := by
    unfold leftOf
    have : ∀ l : List Nat, (l.filter (fun p => decide (p ∈ order))).length + (l.filter fun p => !decide (p ∈ order)).length = l.length := fun l => by
      induction l with
      | nil => rfl
      | cons x l ih =>
        by_cases c : x ∈ order
        · rw [List.filter_cons_of_pos (by simpa using c), List.filter_cons_of_neg (by simpa using c), List.length_cons, List.length_cons]
          omega
        · rw [List.filter_cons_of_neg (by simpa using c), List.filter_cons_of_pos (by simpa using c), List.length_cons, List.length_cons]
          omega
    rw [this, List.length_range]
  rw [p.length_eq] at e
  omega
/-- no way on -/
def NoWay (recs : List Rec) (left : List Nat) (s : St5) : Prop := ¬ ∃ ps : List Nat, ps.Perm left ∧ GoodR (ps.map (recN recs)) s
theorem takes_left {recs : List Rec} {ps left : List Nat} (h : ps.Perm left) : takes (ps.map (recN recs)) = takes (left.map (recN recs)) := takes_perm (h.map _)
theorem NoWay.short {recs : List Rec} {left : List Nat} {s : St5} : NoWay recs left (s.short (takes (left.map (recN recs)))) ↔ NoWay recs left s := by
  unfold NoWay
  refine not_congr ⟨fun ⟨ps, h1, h2⟩ => ⟨ps, h1, ?_⟩, fun ⟨ps, h1, h2⟩ => ⟨ps, h1, ?_⟩⟩
  · exact (GoodR.short (Nat.le_of_eq (takes_left h1))).mpr h2
  · exact (GoodR.short (Nat.le_of_eq (takes_left h1))).mp h2
theorem no_way {recs : List Rec} {n : Nat} {order : List Nat} {s : St5} (hne : leftOf n order ≠ []) (h : ∀ p ∈ leftOf n order, (∃ q ∈ leftOf n order, (recN recs q).fin < (recN recs p).beg) ∨ s.ans (recN recs p).deed ≠ (recN recs p).ans ∨ NoWay recs (leftOf n (order ++ [p])) (s.behind (recN recs p).hand (recN recs p).deed)) : NoWay recs (leftOf n order) s := by
  rintro ⟨ps, h1, h2⟩
  cases ps with
  | nil => exact hne (List.nil_perm.mp h1)
  | cons p ps =>
    obtain ⟨g1, g2, g3⟩ := h2
    have hp : p ∈ leftOf n order := h1.mem_iff.mp List.mem_cons_self
    rcases h p hp with ⟨q, hq, z⟩ | z | z
    · have := g1 (recN recs q) (List.mem_map_of_mem (h1.mem_iff.mpr hq))
      omega
    · exact z g2
    · exact z ⟨ps, (h1.trans (left_snoc n hp)).cons_inv, g3⟩
/-- how many keys are put down -/
def bnd : Nat → Nat
  | 0 => 0
  | n + 1 => (n + 1) * bnd n + 1
end Sd
/-! a history made up -/
namespace Sd
structure Hist (ap m : Nat) (s : L5) (recs : List Rec) : Prop where
  st : s = after (L5.first m) recs
  ans : ∀ i r, recs[i]? = some r → (after (L5.first m) (recs.take i)).ans r.deed = r.ans
  tm : ∀ (i : Nat) r, recs[i]? = some r → r.beg ≤ ap * i + 5 ∧ ap * i + 5 ≤ r.fin
theorem Hist.nil (ap m : Nat) : Hist ap m (L5.first m) [] := ⟨rfl, fun i r h => (by rw [List.getElem?_nil] at h; cases h), fun i r h => (by rw [List.getElem?_nil] at h; cases h)⟩
theorem Hist.add {ap m : Nat} {s : L5} {recs : List Rec} (h : Hist ap m s recs) {hn : Nat} {d : Deed} {be fi : Nat} (h1 : be ≤ ap * recs.length + 5) (h2 : ap * recs.length + 5 ≤ fi) : Hist ap m (s.behind hn d) (recs ++ [⟨hn, d, be, fi, s.ans d⟩]) := by
  have old : ∀ {i : Nat} {r : Rec}, (recs ++ [⟨hn, d, be, fi, s.ans d⟩])[i]? = some r → (i < recs.length ∧ recs[i]? = some r) ∨ (i = recs.length ∧ r = ⟨hn, d, be, fi, s.ans d⟩) := fun {i r} hx => by
    rcases Nat.lt_trichotomy i recs.length with c | c | c
    · rw [List.getElem?_append_left c] at hx
      exact .inl ⟨c, hx⟩
    · subst c
      rw [List.getElem?_append_right (Nat.le_refl _), Nat.sub_self] at hx
      cases hx
      exact .inr ⟨rfl, rfl⟩
    · rw [List.getElem?_eq_none (by rw [List.length_append]; exact c)] at hx
      cases hx
  refine ⟨?_, fun i r hi => ?_, fun i r hi => ?_⟩
  · rw [h.st]
    unfold after
    rw [List.foldl_append]
    rfl
  · rcases old hi with ⟨c, e⟩ | ⟨rfl, rfl⟩
    · rw [List.take_append_of_le_length (by omega)]
      exact h.ans i r e
    · rw [List.take_left, ← h.st]
  · rcases old hi with ⟨c, e⟩ | ⟨rfl, rfl⟩
    · exact h.tm i r e
    · exact ⟨h1, h2⟩
theorem good_suffix {m : Nat} : ∀ (rs pre : List Rec) (s : St5) (l : L5), Sim s l → l.Ok m → l.line.length + rs.length < 10000 → (∀ r ∈ rs, RecOk m r) → l = after (L5.first m) pre → (∀ i r, rs[i]? = some r → (after l (rs.take i)).ans r.deed = r.ans) → (rs.Pairwise fun a b => a.beg ≤ b.fin) → (∀ r ∈ rs, r.beg ≤ r.fin) → GoodR rs s
  | [], _, _, _, _, _, _, _, _, _, _, _ => True.intro
  | r :: rs, pre, s, l, hs, ho, hl, hok, hp, ha, hpw, hb => by
    rw [List.length_cons] at hl
    have rok := hok r List.mem_cons_self
    have := l.len_behind r.hand r.deed
    rw [List.pairwise_cons] at hpw
    refine ⟨fun q hq => ?_, ?_, good_suffix rs (pre ++ [r]) (s.behind r.hand r.deed) (l.behind r.hand r.deed) (hs.behind ho rok.hand rok.ok) (ho.behind rok.ok (by omega)) (by omega) (fun q hq => hok q (List.mem_cons_of_mem _ hq)) ?_ (fun i q hi => ?_) hpw.2 fun q hq => hb q (List.mem_cons_of_mem _ hq)⟩
    · rcases List.mem_cons.mp hq with e | hq
      · rw [e]
        exact hb r List.mem_cons_self
      · exact hpw.1 q hq
    · rw [hs.ans]
      exact ha 0 r rfl
    · rw [hp]
      unfold after
      rw [List.foldl_append]
      rfl
    · exact ha (i + 1) q hi
theorem Hist.good {ap m : Nat} {s : L5} {recs : List Rec} (h : Hist ap m s recs) (hok : ∀ r ∈ recs, RecOk m r) (hl : recs.length < 9000) : GoodR recs (St5.first m) ∧ ∀ r ∈ recs, r.beg ≤ r.fin := by
  have hb : ∀ r ∈ recs, r.beg ≤ r.fin := fun r hr => by
    obtain ⟨i, hi⟩ := List.getElem?_of_mem hr
    have := h.tm i r hi
    omega
  refine ⟨good_suffix recs [] _ _ (Sim.first m) (L5.Ok.first m) ?_ hok rfl h.ans ?_ hb, hb⟩
  · show 0 + _ < 10000
    omega
  · refine List.pairwise_iff_getElem.mpr fun i j hi hj hij => ?_
    have h1 := h.tm i _ (List.getElem?_eq_getElem hi)
    have h2 := h.tm j _ (List.getElem?_eq_getElem hj)
    have : ap * i ≤ ap * j := Nat.mul_le_mul_left _ (by omega)
    omega
end Sd

/-! deeds, and what tells of them -/
namespace Sd
open PySem L2
namespace Deed
def word : Deed → Str
  | one => "one" | count => "count" | set _ => "set" | look => "look" | add _ => "add" | sum => "sum" | rais _ => "raise" | top => "top" | give _ => "give" | take => "take"
def vals : Deed → List V
  | set n => [.str "set", .int n] | add n => [.str "add", .int n] | rais n => [.str "raise", .int n] | give n => [.str "give", .int n]
  | one => [.str "one"] | count => [.str "count"] | look => [.str "look"] | sum => [.str "sum"] | top => [.str "top"] | take => [.str "take"]
theorem at0 : ∀ d : Deed, atI d.vals (0 : Int) = some (.str d.word)
  | set _ | add _ | rais _ | give _ | one | count | look | sum | top | take => atI_nat (j := 0) rfl
end Deed
def words10 : List Str := ["one", "count", "set", "look", "add", "sum", "raise", "top", "give", "take"]
theorem word_of {w : Str} (h : w ∈ words10) : ∃ d : Deed, d.word = w := by
  simp only [words10, List.mem_cons, List.not_mem_nil, or_false] at h
  rcases h with rfl | rfl | rfl | rfl | rfl | rfl | rfl | rfl | rfl | rfl
  · exact ⟨.one, rfl⟩
  · exact ⟨.count, rfl⟩
  · exact ⟨.set 0, rfl⟩
  · exact ⟨.look, rfl⟩
  · exact ⟨.add 0, rfl⟩
  · exact ⟨.sum, rfl⟩
  · exact ⟨.rais 0, rfl⟩
  · exact ⟨.top, rfl⟩
  · exact ⟨.give 0, rfl⟩
  · exact ⟨.take, rfl⟩
theorem strs_got {ws : List Str} {j : Nat} {y : V} (h : (ws.map V.str)[j]? = some y) : ∃ v, ws[j]? = some v ∧ y = .str v := by
  rw [List.getElem?_map] at h
  cases e : ws[j]? with
  | none =>
    rw [e] at h
    cases h
  | some v =>
    rw [e] at h
    exact ⟨v, rfl, (Option.some.inj h).symm⟩
def spLDeed (K : PySem.W.Frag) : Sp := fun vs H Q _ => ∃ (d a : Addr) (ns : List Int) (w : Str), vs = [.ref d, .str w] ∧ w ∈ words10 ∧ Dice H d a ∧ SqL K H a (ns.map V.int) ∧
  ∀ (p : Addr) (H' : Hp) (dd : Deed), dd.word = w → dd.ok → H p = none → H' p = some (.tup dd.vals) → Dice H' d a → But d H H' → Q (.ref p) H'
theorem two_at {n m : Int} {r : Int} (h0 : 0 ≤ r) (h1 : r < 2) : ∃ z, atI [V.int n, V.int m] r = some (V.int z) ∧ (z = n ∨ z = m) := by
  have h : r = 0 ∨ r = 1 := by omega
  rcases h with rfl | rfl
  · exact ⟨n, atI_nat (j := 0) rfl, .inl rfl⟩
  · exact ⟨m, atI_nat (j := 1) rfl, .inr rfl⟩
end Sd

/-! what the five things hold, and what a deed done at once answers -/
namespace Sd
open PySem L2
def Ans.At (H : Hp) (v : V) : Ans → Prop
  | .non => v = .non
  | .int n => v = .int n
  | .view cs => ∃ p, v = .ref p ∧ H p = some (.tup (cs.map V.int))
theorem Ans.At.same {H H' : Hp} {v : V} {a : Ans} (h : a.At H v) (s : Same H H') : a.At H' v := by
  cases a with
  | non => exact h
  | int n => exact h
  | view cs =>
    obtain ⟨p, e, hp⟩ := h
    exact ⟨p, e, s _ _ hp⟩
def St5.At (H : Hp) (v : V) (s : St5) : Prop := ∃ t pc pl, v = .ref t ∧ H t = some (.tup [.int s.ones, .ref pc, .int s.added, .int s.top, .ref pl]) ∧ H pc = some (.tup (s.cells.map V.int)) ∧ H pl = some (.tup (s.line.map V.int))
theorem St5.At.same {H H' : Hp} {v : V} {s : St5} (h : s.At H v) (e : Same H H') : s.At H' v := by
  obtain ⟨t, pc, pl, rfl, h1, h2, h3⟩ := h
  exact ⟨t, pc, pl, rfl, e _ _ h1, e _ _ h2, e _ _ h3⟩
def DeedAt (H : Hp) (p : Addr) (d : Deed) : Prop := H p = some (.tup d.vals)
def spFirst : Sp := fun vs H Q _ => ∃ m : Nat, vs = [.int m] ∧ 1 ≤ m ∧ m ≤ 100 ∧ ∀ v H', Same H H' → (St5.first m).At H' v → Q v H'
def spAnsIn : Sp := fun vs H Q _ => ∃ (v : V) (p : Addr) (s : St5) (d : Deed), vs = [v, .ref p] ∧ s.At H v ∧ DeedAt H p d ∧ s.line.length ≤ 10000 ∧ ∀ u, (s.ans d).At H u → Q u H
def spBehind : Sp := fun vs H Q _ => ∃ (v : V) (p : Addr) (s : St5) (h m : Nat) (d : Deed), vs = [v, .int h, .ref p] ∧ s.At H v ∧ DeedAt H p d ∧ s.Ok m ∧ m ≤ 100 ∧ h < m ∧ ∀ u H', Same H H' → (s.behind h d).At H' u → Q u H'
end Sd

/-! the law's own five things -/
namespace Sd
open PySem L2
/-- but for the objects of F, what stood stands -/
def Off (F : List Addr) (H H' : Hp) : Prop := ∀ b o, b ∉ F → H b = some o → H' b = some o
theorem Off.refl (F : List Addr) (H : Hp) : Off F H H := fun _ _ _ h => h
theorem Off.trans {F : List Addr} {H H1 H2 : Hp} (a : Off F H H1) (b : Off F H1 H2) : Off F H H2 := fun c o n h => b c o n (a c o n h)
theorem Off.of_same {F : List Addr} {H H' : Hp} (s : Same H H') : Off F H H' := fun b o _ h => s b o h
theorem Off.upd {F : List Addr} {H : Hp} {p : Addr} {o : HO} (h : p ∈ F) : Off F H (upd H p o) := fun b u n e => by
  rw [upd_ne (fun z => n (by rw [z]; exact h))]
  exact e
theorem Off.at_ {F : List Addr} {H H' : Hp} (s : Off F H H') {b : Addr} {o : HO} (n : b ∉ F) (h : H b = some o) : H' b = some o := s b o n h
theorem Off.same {F : List Addr} {H H' : Hp} (s : Off F H H') (h : ∀ x ∈ F, H x = none) : Same H H' := fun b o e => s b o (fun m => by rw [h b m] at e; cases e) e
theorem free_ne {F : List Addr} {H : Hp} {x : Addr} {o : HO} (h : ∀ y ∈ F, H y = none) (hx : H x = some o) : x ∉ F := fun m => by
  rw [h x m] at hx
  cases hx
/-- the dict and its four lists: F = [d, set, add, raise, line] -/
structure L5.At (H : Hp) (d a1 a2 a3 a4 : Addr) (s : L5) : Prop where
  d : H d = some (.dK [(Sum.inr "ones", .int s.ones), (Sum.inr "set", .ref a1), (Sum.inr "add", .ref a2), (Sum.inr "raise", .ref a3), (Sum.inr "line", .ref a4)])
  c1 : H a1 = some (.lst (s.cells.map V.int))
  c2 : H a2 = some (.lst (s.adds.map V.int))
  c3 : H a3 = some (.lst (s.tops.map V.int))
  c4 : H a4 = some (.lst (s.line.map V.int))
  n : a1 ≠ a2 ∧ a1 ≠ a3 ∧ a1 ≠ a4 ∧ a2 ≠ a3 ∧ a2 ≠ a4 ∧ a3 ≠ a4
theorem L5.At.nd {H : Hp} {d a1 a2 a3 a4 : Addr} {s : L5} (h : s.At H d a1 a2 a3 a4) : d ≠ a1 ∧ d ≠ a2 ∧ d ≠ a3 ∧ d ≠ a4 :=
  ⟨ne_of h.d h.c1 (by intro z; cases z), ne_of h.d h.c2 (by intro z; cases z), ne_of h.d h.c3 (by intro z; cases z), ne_of h.d h.c4 (by intro z; cases z)⟩
theorem L5.At.off {H H' : Hp} {d a1 a2 a3 a4 : Addr} {s : L5} {F : List Addr} (h : s.At H d a1 a2 a3 a4) (o : Off F H H') (n : ∀ x ∈ [d, a1, a2, a3, a4], x ∉ F) : s.At H' d a1 a2 a3 a4 :=
  ⟨o _ _ (n _ (by simp)) h.d, o _ _ (n _ (by simp)) h.c1, o _ _ (n _ (by simp)) h.c2, o _ _ (n _ (by simp)) h.c3, o _ _ (n _ (by simp)) h.c4, h.n⟩
theorem L5.At.set1 {H : Hp} {d a1 a2 a3 a4 : Addr} {s : L5} (h : s.At H d a1 a2 a3 a4) (cs : List Int) : ({ s with cells := cs } : L5).At (upd H a1 (.lst (cs.map V.int))) d a1 a2 a3 a4 := by
  obtain ⟨n12, n13, n14, n23, n24, n34⟩ := h.n
  obtain ⟨k1, k2, k3, k4⟩ := h.nd
  exact ⟨by rw [upd_ne k1]; exact h.d, upd_same, by rw [upd_ne n12.symm]; exact h.c2, by rw [upd_ne n13.symm]; exact h.c3, by rw [upd_ne n14.symm]; exact h.c4, h.n⟩
theorem L5.At.set2 {H : Hp} {d a1 a2 a3 a4 : Addr} {s : L5} (h : s.At H d a1 a2 a3 a4) (cs : List Int) : ({ s with adds := cs } : L5).At (upd H a2 (.lst (cs.map V.int))) d a1 a2 a3 a4 := by
  obtain ⟨n12, n13, n14, n23, n24, n34⟩ := h.n
  obtain ⟨k1, k2, k3, k4⟩ := h.nd
  exact ⟨by rw [upd_ne k2]; exact h.d, by rw [upd_ne n12]; exact h.c1, upd_same, by rw [upd_ne n23.symm]; exact h.c3, by rw [upd_ne n24.symm]; exact h.c4, h.n⟩
theorem L5.At.set3 {H : Hp} {d a1 a2 a3 a4 : Addr} {s : L5} (h : s.At H d a1 a2 a3 a4) (cs : List Int) : ({ s with tops := cs } : L5).At (upd H a3 (.lst (cs.map V.int))) d a1 a2 a3 a4 := by
  obtain ⟨n12, n13, n14, n23, n24, n34⟩ := h.n
  obtain ⟨k1, k2, k3, k4⟩ := h.nd
  exact ⟨by rw [upd_ne k3]; exact h.d, by rw [upd_ne n13]; exact h.c1, by rw [upd_ne n23]; exact h.c2, upd_same, by rw [upd_ne n34.symm]; exact h.c4, h.n⟩
theorem L5.At.set4 {H : Hp} {d a1 a2 a3 a4 : Addr} {s : L5} (h : s.At H d a1 a2 a3 a4) (cs : List Int) : ({ s with line := cs } : L5).At (upd H a4 (.lst (cs.map V.int))) d a1 a2 a3 a4 := by
  obtain ⟨n12, n13, n14, n23, n24, n34⟩ := h.n
  obtain ⟨k1, k2, k3, k4⟩ := h.nd
  exact ⟨by rw [upd_ne k4]; exact h.d, by rw [upd_ne n14]; exact h.c1, by rw [upd_ne n24]; exact h.c2, by rw [upd_ne n34]; exact h.c3, upd_same, h.n⟩
theorem L5.At.setD {H : Hp} {d a1 a2 a3 a4 : Addr} {s : L5} (h : s.At H d a1 a2 a3 a4) (n : Int) :
    ({ s with ones := n } : L5).At (upd H d (.dK [(Sum.inr "ones", .int n), (Sum.inr "set", .ref a1), (Sum.inr "add", .ref a2), (Sum.inr "raise", .ref a3), (Sum.inr "line", .ref a4)])) d a1 a2 a3 a4 := by
  obtain ⟨k1, k2, k3, k4⟩ := h.nd
  exact ⟨upd_same, by rw [upd_ne k1.symm]; exact h.c1, by rw [upd_ne k2.symm]; exact h.c2, by rw [upd_ne k3.symm]; exact h.c3, by rw [upd_ne k4.symm]; exact h.c4, h.n⟩
def spLPlain : Sp := fun vs H Q _ => ∃ m : Nat, vs = [.int m] ∧ m ≤ 100 ∧ ∀ d a1 a2 a3 a4 H', (∀ x ∈ [d, a1, a2, a3, a4], H x = none) → Same H H' → (L5.first m).At H' d a1 a2 a3 a4 → Q (.ref d) H'
def spAtOnce : Sp := fun vs H Q _ => ∃ (d a1 a2 a3 a4 p : Addr) (s : L5) (h m : Nat) (dd : Deed), vs = [.ref d, .int h, .ref p] ∧ s.At H d a1 a2 a3 a4 ∧ DeedAt H p dd ∧ s.Ok m ∧ 1 ≤ m ∧ h < m ∧ dd.ok ∧ s.line.length < 10000 ∧
  ∀ u H', (s.ans dd).At H' u → (s.behind h dd).At H' d a1 a2 a3 a4 → Off [d, a1, a2, a3, a4] H H' → Q u H'
end Sd
namespace Sd
open PySem L2
def spSameF : Sp := fun vs H Q _ => ∃ (u : V) (a : Ans), vs = [u, u] ∧ a.At H u ∧ (∀ cs, a ≠ .view cs) ∧ Q (.bl true) H
def spSame : Sp := fun vs H Q _ => ∃ (u v : V) (a : Ans), vs = [u, v] ∧ a.At H u ∧ a.At H v ∧ ∀ H', Same H H' → Q (.bl true) H'
def spWords : Sp := fun vs H Q _ => vs = [] ∧ ∀ p H', H p = none → Same H H' → H' p = some (.lst (words10.map V.str)) → Q (.ref p) H'
/-! the program's Plain -/
abbrev fsS (v : V) : List (Str × V) := [(("_state" : Str), v)]
theorem fsS_no {f : Str} (v : V) (h : ¬ f = "_state") : (fsS v).lookup f = none := by
  have hb : (f == ("_state" : Str)) = false := by
    cases e : f == ("_state" : Str) with
    | false => rfl
    | true => exact absurd (beq_iff_eq.mp e) h
  show List.lookup f [(("_state" : Str), v)] = none
  rw [List.lookup_cons, hb]
  rfl
theorem fsS_at (v : V) : (fsS v).lookup ("_state" : Str) = some v := by
  have hb : (("_state" : Str) == ("_state" : Str)) = true := beq_self_eq_true _
  show List.lookup ("_state" : Str) [(("_state" : Str), v)] = _
  rw [List.lookup_cons, hb]
theorem fsS_put (v u : V) : putF "_state" u (fsS v) = fsS u := rfl
def PlainAt (C : Addr) (H : Hp) (b : Addr) (s : St5) : Prop := ∃ dx v, H b = some (.ins C dx (fsS v)) ∧ s.At H v
theorem St5.At.ins {H : Hp} {v : V} {s : St5} {p C dx : Addr} {fs : List (Str × V)} {o : HO} (h : s.At H v) (hp : H p = some (.ins C dx fs)) : s.At (upd H p o) v := by
  obtain ⟨t, pc, pl, rfl, h1, h2, h3⟩ := h
  exact ⟨t, pc, pl, rfl, by rw [upd_ne (ne_of h1 hp (by intro z; cases z))]; exact h1, by rw [upd_ne (ne_of h2 hp (by intro z; cases z))]; exact h2, by rw [upd_ne (ne_of h3 hp (by intro z; cases z))]; exact h3⟩
theorem Ans.At.ins {H : Hp} {v : V} {a : Ans} {p C dx : Addr} {fs : List (Str × V)} {o : HO} (h : a.At H v) (hp : H p = some (.ins C dx fs)) : a.At (upd H p o) v := by
  cases a with
  | non => exact h
  | int n => exact h
  | view cs =>
    obtain ⟨t, e, h1⟩ := h
    exact ⟨t, e, by rw [upd_ne (ne_of h1 hp (by intro z; cases z))]; exact h1⟩
def spPInit (C : Addr) : Sp := fun vs H Q _ => ∃ (p dx : Addr) (m : Nat), vs = [.ref p, .int m] ∧ 1 ≤ m ∧ m ≤ 100 ∧ H p = some (.ins C dx []) ∧
  ∀ (H' : Hp), But p H H' → PlainAt C H' p (St5.first m) → Q .non H'
def spDone (C : Addr) : Sp := fun vs H Q _ => ∃ (b p : Addr) (s : St5) (h m : Nat) (d : Deed), vs = [.ref b, .int h, .ref p] ∧ PlainAt C H b s ∧ DeedAt H p d ∧ s.Ok m ∧ m ≤ 100 ∧ h < m ∧
  ∀ u H', (s.ans d).At H' u → PlainAt C H' b (s.behind h d) → But b H H' → Q u H'
end Sd

/-! tuples: slices, sums, whether an object is new or the old one -/
namespace Sd
open PySem L2
theorem cut_take {xs : List V} {h : Nat} (hh : h ≤ xs.length) : cutV xs none (some (h : Int)) = xs.take h := by
  unfold cutV
  rw [HT.sIx_nat, HT.sIx_none, List.drop_zero, Nat.sub_zero, Nat.min_eq_left hh]
theorem cut_drop {xs : List V} {h : Nat} : cutV xs (some (h : Int)) none = xs.drop h := by
  unfold cutV
  rw [HT.sIx_nat, HT.sIx_none]
  by_cases e : h ≤ xs.length
  · rw [Nat.min_eq_left e]
    exact List.take_of_length_le (by rw [List.length_drop]; omega)
  · rw [Nat.min_eq_right (by omega), Nat.sub_self, List.take_zero, List.drop_eq_nil_of_le (by omega)]
theorem cat_any {H : Hp} {a b : Addr} {xs ys : List V} {Q : VK} (ha : H a = some (.tup xs)) (hb : H b = some (.tup ys)) (q : ∀ u H', Same H H' → H' u = some (.tup (xs ++ ys)) → Q (.ref u) H') :
    (xs = [] → Q (.ref b) H) ∧ (xs ≠ [] → ys = [] → Q (.ref a) H) ∧ (xs ≠ [] → ys ≠ [] → ∀ p, H p = none → Q (.ref p) (upd H p (.tup (xs ++ ys)))) := by
  refine ⟨fun e => q b H (Same.refl H) ?_, fun _ e => q a H (Same.refl H) ?_, fun _ _ p hp => q p _ (Same.new hp) upd_same⟩
  · rw [e]
    exact hb
  · rw [e, List.append_nil]
    exact ha
theorem slice_any {H : Hp} {a : Addr} {xs : List V} {lo hi : Option Int} {Q : VK} (ha : H a = some (.tup xs)) (q : ∀ u H', Same H H' → H' u = some (.tup (cutV xs lo hi)) → Q (.ref u) H') :
    (HT.sIx xs.length 0 lo = 0 ∧ HT.sIx xs.length xs.length hi = xs.length → Q (.ref a) H) ∧ (¬ (HT.sIx xs.length 0 lo = 0 ∧ HT.sIx xs.length xs.length hi = xs.length) → ∀ p, H p = none → Q (.ref p) (upd H p (.tup (cutV xs lo hi)))) := by
  refine ⟨fun e => q a H (Same.refl H) ?_, fun _ p hp => q p _ (Same.new hp) upd_same⟩
  unfold cutV
  rw [e.1, e.2, List.drop_zero, Nat.sub_zero, List.take_length]
  exact ha
theorem cat_r {K : PySem.W.Frag} {H : Hp} {a b : Addr} {xs ys : List V} {Q : VK} (ha : H a = some (.tup xs)) (hb : H b = some (.tup ys)) (hn : xs.length + ys.length ≤ 1001) (q : ∀ u H', Same H H' → H' u = some (.tup (xs ++ ys)) → Q (.ref u) H') : rCatA K (.ref a) (.ref b) H Q :=
  ⟨a, b, xs, ys, rfl, rfl, SqT.of ha, SqT.of hb, Nat.le_trans hn (by decide), cat_any ha hb q⟩
theorem cat_rL {K : PySem.W.Frag} {H : Hp} {a b : Addr} {xs ys : List V} {Q : VK} (ha : H a = some (.tup xs)) (hb : H b = some (.tup ys)) (hn : xs.length + ys.length ≤ 10001) (q : ∀ u H', Same H H' → H' u = some (.tup (xs ++ ys)) → Q (.ref u) H') : rCatA K (.ref a) (.ref b) H Q :=
  ⟨a, b, xs, ys, rfl, rfl, SqT.of ha, SqT.of hb, Nat.le_trans hn (by decide), cat_any ha hb q⟩
theorem slice_r {K : PySem.W.Frag} {H : Hp} {a : Addr} {xs : List V} {lo hi : Option Int} {Q : VK} (ha : H a = some (.tup xs)) (q : ∀ u H', Same H H' → H' u = some (.tup (cutV xs lo hi)) → Q (.ref u) H') : rSlA K (.ref a) lo hi H Q :=
  ⟨a, xs, rfl, SqT.of ha, slice_any ha q⟩
end Sd

/-! tuple * int: by 1 it is the tuple itself -/
namespace Sd
open PySem PySem.Spec PyProof.Rows L2
theorem tuple_mul1 (l : Addr) (items : Array Value) (n : Nat) (sl : Array (Option Value)) (dd : Option Addr) (u : Tok) :
    Meets (Builtin.«tuple.__mul__» ⟨[.ref l, .int 1 u], []⟩) (fun _ R s => s.heap.get? l = some { cls := .type "tuple", dict := dd, data := .seq items n, slots := sl } ∧ R (.ok (.ret (.ref l))) s) :=
  .of_wp fun prog w A R s h => by
    obtain ⟨hp, g, d, tk, os⟩ := s
    obtain ⟨hl, h⟩ := h
    have f1 := AutoSeq1.idx_int
    have c1 : (items.isEmpty || (1 : Int) == 1) = true := Bool.or_true _
    wp_walk using wpAny_loadPart' hl
    exact ⟨_, rfl, h⟩
def rRepT1 (K : PySem.W.Frag) : R2 := fun x y H Q => ∃ l k xs, x = .ref l ∧ y = .int k ∧ SqT K H l xs ∧ xs ≠ [] ∧ 1 ≤ k ∧ k ≤ 1000 ∧ xs.length ≤ 1000 ∧ (k = 1 → Q (.ref l) H) ∧ (k ≠ 1 → ∀ p, H p = none → Q (.ref p) (upd H p (.tup (List.replicate k.toNat xs).flatten)))
theorem op_repT1 {X : Cx} : OpR X (binaryOp .Mult) (rRepT1 X.K) := by
  intro pins s σ H x y v u Q I rx ry h
  obtain ⟨l, k, xs, rfl, rfl, hT, hne, h1, h2, hz, q1, q2⟩ := h
  by_cases e : k = 1
  · subst e
    cases rx
    obtain ⟨t, rfl⟩ := ry
    obtain ⟨its, r, ⟨⟨cls, dd, data, sl⟩, ho, hc, n, hd⟩, hs⟩ := I.tuple hT
    simp only at hc hd
    subst hc hd
    refine wpAny_binaryOp_repeat_ref (T := "tuple") (U := "int") (by decide) ⟨_, ho, rfl⟩ (fun s' => typeIs_int s' 1 t) noFill_tuple_mul F.fills_int_mul F.slot_int_rmul repeat_tuple F.slot_int_index.lookup
      (call_meets F.slot_int_rmul (typeIs_int s 1 t) F.entry_int_rmul (F.args_int_rmul_2 _ _) (int_rmul_tuple 1 t l its.toArray n dd sl)
        ⟨ho, rfl, ⟨_, ho, rfl⟩, call_meets F.slot_tuple_mul ⟨_, ho, rfl⟩ F.entry_tuple_mul (F.args_tuple_mul_2 _ _) (tuple_mul1 l its.toArray n sl dd t) ⟨ho, ?_⟩⟩)
    exact ⟨.ref l, H, I, rfl, q1 rfl⟩
  · exact op_repT pins s σ H _ _ v u Q I rx ry ⟨l, k, xs, rfl, rfl, hT, hne, by omega, h2, hz, q2 e⟩
end Sd

/-! what is a deed, what is none -/
namespace Sd
open PySem L2
def kvThing : List (Str × Int) := [("one", 0), ("count", 0), ("set", 1), ("look", 1), ("add", 2), ("sum", 2), ("raise", 3), ("top", 3), ("give", 4), ("take", 4)]
def noThing : List Str := ["ones", "", "Set", "two"]
def with4 : List Str := ["set", "add", "raise", "give"]
def tell4 : List Str := ["count", "look", "sum", "top"]
def less6 : List Str := ["one", "count", "look", "sum", "top", "take"]
theorem Deed.kv : ∀ d : Deed, (d.word, (d.thing : Int)) ∈ kvThing
  | .one => (by decide +kernel : (("one" : Str), (0 : Int)) ∈ kvThing)
  | .count => (by decide +kernel : (("count" : Str), (0 : Int)) ∈ kvThing)
  | .set _ => (by decide +kernel : (("set" : Str), (1 : Int)) ∈ kvThing)
  | .look => (by decide +kernel : (("look" : Str), (1 : Int)) ∈ kvThing)
  | .add _ => (by decide +kernel : (("add" : Str), (2 : Int)) ∈ kvThing)
  | .sum => (by decide +kernel : (("sum" : Str), (2 : Int)) ∈ kvThing)
  | .rais _ => (by decide +kernel : (("raise" : Str), (3 : Int)) ∈ kvThing)
  | .top => (by decide +kernel : (("top" : Str), (3 : Int)) ∈ kvThing)
  | .give _ => (by decide +kernel : (("give" : Str), (4 : Int)) ∈ kvThing)
  | .take => (by decide +kernel : (("take" : Str), (4 : Int)) ∈ kvThing)
theorem Deed.mem10 : ∀ d : Deed, d.word ∈ words10
  | .one => (by decide +kernel : ("one" : Str) ∈ words10)
  | .count => (by decide +kernel : ("count" : Str) ∈ words10)
  | .set _ => (by decide +kernel : ("set" : Str) ∈ words10)
  | .look => (by decide +kernel : ("look" : Str) ∈ words10)
  | .add _ => (by decide +kernel : ("add" : Str) ∈ words10)
  | .sum => (by decide +kernel : ("sum" : Str) ∈ words10)
  | .rais _ => (by decide +kernel : ("raise" : Str) ∈ words10)
  | .top => (by decide +kernel : ("top" : Str) ∈ words10)
  | .give _ => (by decide +kernel : ("give" : Str) ∈ words10)
  | .take => (by decide +kernel : ("take" : Str) ∈ words10)
theorem Deed.word_take : ∀ d : Deed, d.word = "take" → d = .take
  | .take, _ => rfl
  | .one, h => absurd h (by decide +kernel : ¬ (("one" : Str) = "take"))
  | .count, h => absurd h (by decide +kernel : ¬ (("count" : Str) = "take"))
  | .set _, h => absurd h (by decide +kernel : ¬ (("set" : Str) = "take"))
  | .look, h => absurd h (by decide +kernel : ¬ (("look" : Str) = "take"))
  | .add _, h => absurd h (by decide +kernel : ¬ (("add" : Str) = "take"))
  | .sum, h => absurd h (by decide +kernel : ¬ (("sum" : Str) = "take"))
  | .rais _, h => absurd h (by decide +kernel : ¬ (("raise" : Str) = "take"))
  | .top, h => absurd h (by decide +kernel : ¬ (("top" : Str) = "take"))
  | .give _, h => absurd h (by decide +kernel : ¬ (("give" : Str) = "take"))
theorem kv_of {w : Str} (h : w ∈ words10) : ∃ v, (w, v) ∈ kvThing := by
  obtain ⟨d, rfl⟩ := word_of h
  exact ⟨_, d.kv⟩
/-- a deed that hand h may do -/
def Good (H : Hp) (h : Int) (p : Addr) : Prop := ∃ d : Deed, DeedAt H p d ∧ d.ok ∧ (d = .take → h = 0)
def BadV (h : Int) (xs : List V) : Prop :=
  xs = [] ∨ (∃ w r, xs = .str w :: r ∧ w ∈ noThing) ∨ (∃ w r, xs = .str w :: r ∧ w ∈ with4 ∧ r.length ≠ 1) ∨ (∃ w n, xs = [.str w, .int n] ∧ w ∈ with4 ∧ ¬ (0 ≤ n ∧ n ≤ 999)) ∨
  (∃ w r, xs = .str w :: r ∧ w ∈ less6 ∧ r ≠ []) ∨ (xs = [.str "take"] ∧ h ≠ 0)
def Bad (H : Hp) (h : Int) (p : Addr) : Prop := ∃ xs, H p = some (.tup xs) ∧ BadV h xs
def spNN (ND : Addr) : Sp := fun vs H Q E => ∃ (p : Addr) (w : Str) (r : List V), vs = [.ref p] ∧ H p = some (.tup (.str w :: r)) ∧
  ((∃ n, r = [.int n] ∧ 0 ≤ n ∧ n ≤ 999 ∧ Q .non H) ∨ ((r.length ≠ 1 ∨ ∃ n, r = [.int n] ∧ ¬ (0 ≤ n ∧ n ≤ 999)) ∧ E (.ref ND) none H))
def spNeedDeed (ND : Addr) : Sp := fun vs H Q E => ∃ (p : Addr) (h : Int), vs = [.ref p, .int h] ∧ ((Good H h p ∧ Q .non H) ∨ (Bad H h p ∧ E (.ref ND) none H))
end Sd

/-! a hall in the heap -/
namespace Sd
open PySem L2
abbrev hfs (hand plan many ended ones took beg out reading readings steps : V) : List (Str × V) :=
  [(("_hand" : Str), hand), (("_plan" : Str), plan), (("_many" : Str), many), (("_ended" : Str), ended), (("_ones" : Str), ones), (("_took" : Str), took), (("_begin" : Str), beg), (("_outcome" : Str), out), (("_reading" : Str), reading), (("_readings" : Str), readings), (("steps" : Str), steps)]
abbrev gfs (boxes hands records marks touches : V) : List (Str × V) :=
  [(("_boxes" : Str), boxes), (("_hands" : Str), hands), (("_records" : Str), records), (("_marks" : Str), marks), (("_touches" : Str), touches)]
abbrev bfs (l : V) : List (Str × V) := [(("_numbers" : Str), l)]
/-- tuples stand -/
def Tu (H H' : Hp) : Prop := ∀ b xs, H b = some (.tup xs) → H' b = some (.tup xs)
theorem Tu.refl (H : Hp) : Tu H H := fun _ _ h => h
theorem Tu.trans {H H1 H2 : Hp} (a : Tu H H1) (b : Tu H1 H2) : Tu H H2 := fun c o h => b c o (a c o h)
theorem Tu.same {H H' : Hp} (s : Same H H') : Tu H H' := fun b xs h => s b _ h
theorem Tu.off {F : List Addr} {H H' : Hp} (s : Off F H H') (n : ∀ x ∈ F, ∀ xs, H x ≠ some (.tup xs)) : Tu H H' := fun b xs h => s b _ (fun m => n b m xs h) h
theorem Tu.upd {H : Hp} {p : Addr} {o : HO} (n : ∀ xs, H p ≠ some (.tup xs)) : Tu H (L2.upd H p o) := fun b xs h => by
  rw [upd_ne (fun z => n xs (by rw [← z]; exact h))]
  exact h
theorem Ans.At.tu {H H' : Hp} {v : V} {a : Ans} (h : a.At H v) (s : Tu H H') : a.At H' v := by
  cases a with
  | non => exact h
  | int n => exact h
  | view cs =>
    obtain ⟨p, e, hp⟩ := h
    exact ⟨p, e, s _ _ hp⟩
def MarkAt (H : Hp) (v : V) : Mark → Prop
  | .non => v = .non
  | .mom n => v = .int n
  | .gift h k => ∃ p, v = .ref p ∧ H p = some (.tup [.int h, .int k])
theorem MarkAt.tu {H H' : Hp} {v : V} {a : Mark} (h : MarkAt H v a) (s : Tu H H') : MarkAt H' v a := by
  cases a with
  | non => exact h
  | mom n => exact h
  | gift i k =>
    obtain ⟨p, e, hp⟩ := h
    exact ⟨p, e, s _ _ hp⟩
def numV : Option Int → V
  | none => .non
  | some n => .int n
def OutAt (H : Hp) (v : V) : Option Out → Prop
  | none => v = .non
  | some o => ∃ p av mv, v = .ref p ∧ H p = some (.tup [numV o.num, av, mv]) ∧ o.ans.At H av ∧ MarkAt H mv o.mark
theorem OutAt.tu {H H' : Hp} {v : V} {a : Option Out} (h : OutAt H v a) (s : Tu H H') : OutAt H' v a := by
  cases a with
  | none => exact h
  | some o =>
    obtain ⟨p, av, mv, e, hp, h1, h2⟩ := h
    exact ⟨p, av, mv, e, s _ _ hp, h1.tu s, h2.tu s⟩
def TouchAt (H : Hp) (v : V) (t : Touch) : Prop := ∃ p, v = .ref p ∧ H p = some (.tup [.int t.hand, .str (if t.put then "put" else "take"), .int t.place, .int t.num])
theorem TouchAt.tu {H H' : Hp} {v : V} {a : Touch} (h : TouchAt H v a) (s : Tu H H') : TouchAt H' v a := by
  obtain ⟨p, e, hp⟩ := h
  exact ⟨p, e, s _ _ hp⟩
def RecAt (H : Hp) (v : V) (r : Rec) : Prop := ∃ p dp av, v = .ref p ∧ H p = some (.tup [.int r.hand, .ref dp, .int r.beg, .int r.fin, av]) ∧ DeedAt H dp r.deed ∧ r.ans.At H av
theorem RecAt.tu {H H' : Hp} {v : V} {a : Rec} (h : RecAt H v a) (s : Tu H H') : RecAt H' v a := by
  obtain ⟨p, dp, av, e, hp, h1, h2⟩ := h
  exact ⟨p, dp, av, e, s _ _ hp, s _ _ h1, h2.tu s⟩
def PlanAt (H : Hp) (ps : List Addr) (plan : List Deed) : Prop := Paired (fun p d => DeedAt H p d) ps plan
theorem PlanAt.tu {H H' : Hp} {ps : List Addr} {plan : List Deed} (h : PlanAt H ps plan) (s : Tu H H') : PlanAt H' ps plan := L2.Paired.mapP h fun a b e => s _ _ e
/-- the objects of one hand -/
structure HG where
  hp : Addr
  tk : Addr
  rd : Addr
  rs : Addr
  pl : Addr
  rrs : List Addr
abbrev HG.list (g : HG) : List Addr := g.hp :: g.tk :: g.rd :: g.rs :: g.pl :: g.rrs
structure HandAt (C : Addr) (H : Hp) (g : HG) (i many : Nat) (plan : List Deed) (h : HandM) : Prop where
  ob : ∃ dx ov, H g.hp = some (.ins C dx (hfs (.int i) (.ref g.pl) (.int many) (.int h.ended) (.int h.ones) (.ref g.tk) (.int h.beg) ov (.ref g.rd) (.ref g.rs) (.int h.steps))) ∧ OutAt H ov h.out
  pl : ∃ ps : List Addr, H g.pl = some (.lst (ps.map V.ref)) ∧ PlanAt H ps plan
  tk : H g.tk = some (.lst (h.took.map fun n : Nat => V.int (n : Int)))
  rd : H g.rd = some (.lst (h.reading.map V.int))
  rs : H g.rs = some (.lst (g.rrs.map V.ref))
  rr : Paired (fun p r => H p = some (.lst (r.map V.int))) g.rrs h.readings
  n1 : g.tk ≠ g.rd ∧ g.tk ≠ g.rs ∧ g.rd ≠ g.rs ∧ g.pl ≠ g.tk ∧ g.pl ≠ g.rd ∧ g.pl ≠ g.rs
  n2 : g.tk ∉ g.rrs ∧ g.rd ∉ g.rrs ∧ g.rs ∉ g.rrs
theorem HandAt.noTup {C : Addr} {H : Hp} {g : HG} {i many : Nat} {plan : List Deed} {h : HandM} (a : HandAt C H g i many plan h) : ∀ x ∈ g.list, ∀ xs, H x ≠ some (.tup xs) := by
  intro x hx xs e
  rcases List.mem_cons.mp hx with rfl | hx
  · obtain ⟨_, _, e2, _⟩ := a.ob
    rw [e2] at e; cases e
  rcases List.mem_cons.mp hx with rfl | hx
  · rw [a.tk] at e; cases e
  rcases List.mem_cons.mp hx with rfl | hx
  · rw [a.rd] at e; cases e
  rcases List.mem_cons.mp hx with rfl | hx
  · rw [a.rs] at e; cases e
  rcases List.mem_cons.mp hx with rfl | hx
  · obtain ⟨_, e2, _⟩ := a.pl
    rw [e2] at e; cases e
  · obtain ⟨i, hi, ei⟩ := List.mem_iff_getElem.mp hx
    have : ∀ {ps : List Addr} {rs : List (List Int)}, Paired (fun p r => H p = some (.lst (r.map V.int))) ps rs → ∀ y ∈ ps, ∃ r : List Int, H y = some (.lst (r.map V.int)) := by
      intro ps rs hp
      induction hp with
      | nil => intro y hy; cases hy
      | cons r t ih =>
        intro y hy
        rcases List.mem_cons.mp hy with rfl | hy
        · exact ⟨_, r⟩
        · exact ih y hy
    obtain ⟨r, hr⟩ := this a.rr x hx
    rw [hr] at e
    cases e
theorem HandAt.off {C : Addr} {H H' : Hp} {g : HG} {i many : Nat} {plan : List Deed} {h : HandM} {F : List Addr} (a : HandAt C H g i many plan h) (o : Off F H H') (n : ∀ x ∈ g.list, x ∉ F) (t : Tu H H') : HandAt C H' g i many plan h := by
  obtain ⟨dx, ov, h1, h2⟩ := a.ob
  obtain ⟨ps, p1, p2⟩ := a.pl
  refine ⟨⟨dx, ov, o _ _ (n _ (by simp)) h1, h2.tu t⟩, ⟨ps, o _ _ (n _ (by simp)) p1, p2.tu t⟩, o _ _ (n _ (by simp)) a.tk, o _ _ (n _ (by simp)) a.rd, o _ _ (n _ (by simp)) a.rs, ?_, a.n1, a.n2⟩
  have : ∀ {ps : List Addr} {rs : List (List Int)}, Paired (fun p r => H p = some (.lst (r.map V.int))) ps rs → (∀ y ∈ ps, y ∉ F) → Paired (fun p r => H' p = some (.lst (r.map V.int))) ps rs := by
    intro ps rs hp
    induction hp with
    | nil => intro _; exact .nil
    | cons r t ih => intro m; exact .cons (o _ _ (m _ List.mem_cons_self) r) (ih fun y hy => m y (List.mem_cons_of_mem _ hy))
  exact this a.rr fun y hy => n y (by simp only [HG.list, List.mem_cons]; exact .inr (.inr (.inr (.inr (.inr hy)))))
/-- the objects of a hall -/
structure HallG where
  ha : Addr
  bx : Addr
  bl : Addr
  hl : Addr
  rc : Addr
  mr : Addr
  tc : Addr
  hs : List HG
abbrev HallG.own (g : HallG) : List Addr := [g.ha, g.bx, g.bl, g.hl, g.rc, g.mr, g.tc]
abbrev HallG.list (g : HallG) : List Addr := g.own ++ g.hs.flatMap HG.list
structure HallAt (CB CD CH : Addr) (H : Hp) (g : HallG) (s : HallM) : Prop where
  ob : ∃ dx, H g.ha = some (.ins CH dx (gfs (.ref g.bx) (.ref g.hl) (.ref g.rc) (.ref g.mr) (.ref g.tc)))
  bx : ∃ dx, H g.bx = some (.ins CB dx (bfs (.ref g.bl)))
  bl : H g.bl = some (.lst (s.boxes.map V.int))
  hl : H g.hl = some (.lst (g.hs.map fun x => V.ref x.hp))
  rc : ∃ vs, H g.rc = some (.lst vs) ∧ Paired (RecAt H) vs s.recs
  mr : ∃ vs, H g.mr = some (.lst vs) ∧ Paired (MarkAt H) vs s.marks
  tc : ∃ vs, H g.tc = some (.lst vs) ∧ Paired (TouchAt H) vs s.touches
  len : g.hs.length = s.many
  hand : ∀ (i : Nat) (x : HG), g.hs[i]? = some x → HandAt CD H x i s.many (s.plan i) (s.hand i)
  own : [g.bl, g.hl, g.rc, g.mr, g.tc].Nodup ∧ g.ha ≠ g.bx
  apart : ∀ (i : Nat) (x : HG), g.hs[i]? = some x → ∀ y ∈ x.list, y ∉ g.own
  sep : ∀ (i j : Nat) (x z : HG), i ≠ j → g.hs[i]? = some x → g.hs[j]? = some z → ∀ y ∈ x.list, y ∉ z.list
end Sd
namespace Sd
open PySem L2
theorem HandAt.tracked {C : Addr} {H : Hp} {g : HG} {i many : Nat} {plan : List Deed} {h : HandM} (a : HandAt C H g i many plan h) : ∀ x ∈ g.list, ∃ o, H x = some o := by
  intro x hx
  rcases List.mem_cons.mp hx with rfl | hx
  · obtain ⟨_, _, e2, _⟩ := a.ob
    exact ⟨_, e2⟩
  rcases List.mem_cons.mp hx with rfl | hx
  · exact ⟨_, a.tk⟩
  rcases List.mem_cons.mp hx with rfl | hx
  · exact ⟨_, a.rd⟩
  rcases List.mem_cons.mp hx with rfl | hx
  · exact ⟨_, a.rs⟩
  rcases List.mem_cons.mp hx with rfl | hx
  · obtain ⟨_, e2, _⟩ := a.pl
    exact ⟨_, e2⟩
  · have : ∀ {ps : List Addr} {rs : List (List Int)}, Paired (fun p r => H p = some (.lst (r.map V.int))) ps rs → ∀ y ∈ ps, ∃ r : List Int, H y = some (.lst (r.map V.int)) := by
      intro ps rs hp
      induction hp with
      | nil => intro y hy; cases hy
      | cons r t ih =>
        intro y hy
        rcases List.mem_cons.mp hy with rfl | hy
        · exact ⟨_, r⟩
        · exact ih y hy
    obtain ⟨r, hr⟩ := this a.rr x hx
    exact ⟨_, hr⟩
theorem HandAt.same {C : Addr} {H H' : Hp} {g : HG} {i many : Nat} {plan : List Deed} {h : HandM} (a : HandAt C H g i many plan h) (s : Same H H') : HandAt C H' g i many plan h :=
  a.off (F := []) (Off.of_same s) (by simp) (Tu.same s)
/-- the hands made so far -/
structure Made (C : Addr) (H0 H : Hp) (D : Addr) (gs : List HG) (m : Nat) (plans : List (List Deed)) : Prop where
  lst : H D = some (.lst (gs.map fun x => V.ref x.hp))
  hand : ∀ (i : Nat) (x : HG), gs[i]? = some x → HandAt C H x i m (plans.getD i []) (HandM.new m)
  free : ∀ x ∈ gs, ∀ y ∈ x.list, H0 y = none ∧ y ≠ D
  sep : ∀ (i j : Nat) (x z : HG), i ≠ j → gs[i]? = some x → gs[j]? = some z → ∀ y ∈ x.list, y ∉ z.list
theorem Made.add {C D : Addr} {H0 H H' : Hp} {gs : List HG} {m : Nat} {plans : List (List Deed)} {g : HG} (a : Made C H0 H D gs m plans) (s0 : Same H0 H) (s : Same H H') (h : HandAt C H' g gs.length m (plans.getD gs.length []) (HandM.new m)) (hf : ∀ y ∈ g.list, H y = none) (hD : D ∉ g.list) :
    Made C H0 (upd H' D (.lst ((gs.map fun x => V.ref x.hp) ++ [.ref g.hp]))) D (gs ++ [g]) m plans := by
  have oD : Off [D] H' (upd H' D (.lst ((gs.map fun x => V.ref x.hp) ++ [.ref g.hp]))) := Off.upd (List.mem_singleton.mpr rfl)
  have tD : Tu H' (upd H' D (.lst ((gs.map fun x => V.ref x.hp) ++ [.ref g.hp]))) := Tu.upd fun xs e => by
    rw [s _ _ a.lst] at e
    cases e
  refine ⟨?_, ?_, ?_, ?_⟩
  · rw [upd_same, List.map_append]
    rfl
  · intro i x hx
    rcases Nat.lt_trichotomy i gs.length with c | c | c
    · rw [List.getElem?_append_left c] at hx
      refine ((a.hand i x hx).same s).off oD (fun y hy mm => ?_) tD
      exact ((a.free x (List.mem_of_getElem? hx)) y hy).2 (List.mem_singleton.mp mm)
    · subst c
      rw [List.getElem?_append_right (Nat.le_refl _), Nat.sub_self] at hx
      cases hx
      exact h.off oD (fun y hy mm => hD (by rw [← List.mem_singleton.mp mm]; exact hy)) tD
    · rw [List.getElem?_eq_none (by rw [List.length_append]; exact c)] at hx
      cases hx
  · intro x hx y hy
    rcases List.mem_append.mp hx with hx | hx
    · exact a.free x hx y hy
    · rw [List.mem_singleton.mp hx] at hy
      exact ⟨s0.free (hf y hy), fun z => hD (by rw [← z]; exact hy)⟩
  · intro i j x z n hx hz y hy hy2
    have old : ∀ (i : Nat) (x : HG), (gs ++ [g])[i]? = some x → (i < gs.length ∧ gs[i]? = some x) ∨ (i = gs.length ∧ x = g) := fun i x hx => by
      rcases Nat.lt_trichotomy i gs.length with c | c | c
      · rw [List.getElem?_append_left c] at hx
        exact .inl ⟨c, hx⟩
      · subst c
        rw [List.getElem?_append_right (Nat.le_refl _), Nat.sub_self] at hx
        cases hx
        exact .inr ⟨rfl, rfl⟩
      · rw [List.getElem?_eq_none (by rw [List.length_append]; exact c)] at hx
        cases hx
    rcases old i x hx with ⟨c1, e1⟩ | ⟨c1, e1⟩
    · rcases old j z hz with ⟨c2, e2⟩ | ⟨c2, e2⟩
      · exact a.sep i j x z n e1 e2 y hy hy2
      · obtain ⟨o, ho⟩ := (a.hand i x e1).tracked y hy
        rw [hf y (by rw [← e2]; exact hy2)] at ho
        cases ho
    · rcases old j z hz with ⟨c2, e2⟩ | ⟨c2, e2⟩
      · obtain ⟨o, ho⟩ := (a.hand j z e2).tracked y hy2
        rw [hf y (by rw [← e1]; exact hy)] at ho
        cases ho
      · omega
end Sd

/-! what the making of a hall promises -/
namespace Sd
open PySem L2
def spBInit (C : Addr) : Sp := fun vs H Q _ => ∃ (p dx : Addr) (n : Int), vs = [.ref p, .int n] ∧ 0 ≤ n ∧ n ≤ 100000 ∧ H p = some (.ins C dx []) ∧
  ∀ (l : Addr) (H' : Hp), H l = none → But p H H' → H' p = some (.ins C dx (bfs (.ref l))) → H' l = some (.lst ((List.replicate n.toNat (0 : Int)).map V.int)) → Q .non H'
def spHandInit (C : Addr) : Sp := fun vs H Q _ => ∃ (p pl dx : Addr) (i m : Nat) (ps : List Addr) (plan : List Deed), vs = [.ref p, .int i, .ref pl, .int m] ∧ H p = some (.ins C dx []) ∧ H pl = some (.lst (ps.map V.ref)) ∧ PlanAt H ps plan ∧ m ≤ 100 ∧
  ∀ (g : HG) (H' : Hp), g.hp = p → g.pl = pl → g.rrs = [] → H g.tk = none → H g.rd = none → H g.rs = none → But p H H' → HandAt C H' g i m plan (HandM.new m) → Q .non H'
/-- the plans handed in: a list of lists of deeds -/
def PlansAt (H : Hp) (pl : Addr) (ls : List Addr) (pss : List (List Addr)) : Prop := H pl = some (.lst (ls.map V.ref)) ∧ Paired (fun l ps => H l = some (.lst (ps.map V.ref))) ls pss
def GoodPlan (H : Hp) (h : Int) (ps : List Addr) : Prop := ps.length ≤ 40 ∧ ∀ p ∈ ps, Good H h p
def BadPlan (H : Hp) (h : Int) (ps : List Addr) : Prop := 40 < ps.length ∨ ∃ (k : Nat) (p : Addr), ps[k]? = some p ∧ Bad H h p ∧ ∀ (j : Nat) (q : Addr), j < k → ps[j]? = some q → Good H h q
def spNeedPlans (NH ND : Addr) : Sp := fun vs H Q E => ∃ (pl : Addr) (ls : List Addr) (pss : List (List Addr)), vs = [.ref pl] ∧ PlansAt H pl ls pss ∧ pss.length ≤ 1000 ∧ (∀ ps ∈ pss, ps.length ≤ 100000) ∧
  ((0 < pss.length ∧ pss.length ≤ 4 ∧ (∀ (i : Nat) (ps : List Addr), pss[i]? = some ps → GoodPlan H i ps) ∧ Q .non H) ∨ ((pss.length = 0 ∨ 4 < pss.length) ∧ E (.ref NH) none H) ∨
    (0 < pss.length ∧ pss.length ≤ 4 ∧ (∃ (i : Nat) (ps : List Addr), pss[i]? = some ps ∧ BadPlan H i ps ∧ ∀ (j : Nat) (qs : List Addr), j < i → pss[j]? = some qs → GoodPlan H j qs) ∧ E (.ref ND) none H))
def spHallInit (CB CD CH NH ND : Addr) : Sp := fun vs H Q E => ∃ (p dx pl : Addr) (ls : List Addr) (pss : List (List Addr)), vs = [.ref p, .ref pl] ∧ H p = some (.ins CH dx []) ∧ PlansAt H pl ls pss ∧ pss.length ≤ 1000 ∧ (∀ ps ∈ pss, ps.length ≤ 100000) ∧
  ((∃ plans : List (List Deed), 0 < pss.length ∧ pss.length ≤ 4 ∧ (∀ (i : Nat) (ps : List Addr), pss[i]? = some ps → GoodPlan H i ps) ∧ Paired (fun ps plan => PlanAt H ps plan) pss plans ∧
      ∀ (g : HallG) (H' : Hp), g.ha = p → (∀ x ∈ g.list, x ≠ p → H x = none) → But p H H' → HallAt CB CD CH H' g (HallM.new plans) → Q .non H') ∨ ((pss.length = 0 ∨ 4 < pss.length) ∧ E (.ref NH) none H) ∨
    (0 < pss.length ∧ pss.length ≤ 4 ∧ (∃ (i : Nat) (ps : List Addr), pss[i]? = some ps ∧ BadPlan H i ps ∧ ∀ (j : Nat) (qs : List Addr), j < i → pss[j]? = some qs → GoodPlan H j qs) ∧ ∀ H', Same H H' → E (.ref ND) none H'))
def spRecords (CB CD CH : Addr) : Sp := fun vs H Q _ => ∃ (g : HallG) (s : HallM), vs = [.ref g.ha] ∧ HallAt CB CD CH H g s ∧
  ∀ (p : Addr) (rs : List V), H p = none → Paired (RecAt H) rs s.recs → Q (.ref p) (upd H p (.lst rs))
theorem Paired.get {α β : Type} {R : α → β → Prop} : ∀ {xs : List α} {ys : List β}, Paired R xs ys → ∀ {i : Nat} {y : β}, ys[i]? = some y → ∃ x, xs[i]? = some x ∧ R x y
  | _, _, .nil, i, y, h => by cases h
  | _, _, .cons r t, 0, y, h => by cases h; exact ⟨_, rfl, r⟩
  | _, _, .cons r t, i + 1, y, h => Paired.get t h
theorem Paired.get2 {α β : Type} {R : α → β → Prop} : ∀ {xs : List α} {ys : List β}, Paired R xs ys → ∀ {i : Nat} {x : α}, xs[i]? = some x → ∃ y, ys[i]? = some y ∧ R x y
  | _, _, .nil, i, y, h => by cases h
  | _, _, .cons r t, 0, y, h => by cases h; exact ⟨_, rfl, r⟩
  | _, _, .cons r t, i + 1, y, h => Paired.get2 t h
theorem Paired.len {α β : Type} {R : α → β → Prop} {xs : List α} {ys : List β} (h : Paired R xs ys) : xs.length = ys.length := PySem.Paired.length h
end Sd

/-! the law's draws of plans -/
namespace Sd
open PySem L2
/-- plans that were drawn: all in new lists -/
structure DrawnP (H0 H : Hp) (pl : Addr) (ls : List Addr) (pss : List (List Addr)) (plans : List (List Deed)) (most : Nat) : Prop where
  hpl : H pl = some (.lst (ls.map V.ref))
  hls : Paired (fun l ps => H l = some (.lst (ps.map V.ref))) ls pss
  hps : Paired (fun ps plan => PlanAt H ps plan) pss plans
  fpl : H0 pl = none
  fls : ∀ l ∈ ls, H0 l = none
  npl : pl ∉ ls
  nls : ls.Nodup
  short : ∀ plan ∈ plans, plan.length ≤ most
  ok : ∀ plan ∈ plans, ∀ d ∈ plan, d.ok
  take : ∀ (i : Nat) (plan : List Deed), plans[i]? = some plan → ∀ d ∈ plan, d = .take → i = 0
def spPlans (K : PySem.W.Frag) : Sp := fun vs H Q _ => ∃ (d a wl : Addr) (ns : List Int) (ws : List Str) (m most : Nat), vs = [.ref d, .int m, .ref wl, .int most] ∧ Dice H d a ∧ SqL K H a (ns.map V.int) ∧
  H wl = some (.lst (ws.map V.str)) ∧ wl ≠ d ∧ (∀ w ∈ ws, w ∈ words10) ∧ 0 < ws.length ∧ ws.length ≤ 100 ∧ m ≤ 100 ∧ most ≤ 1000 ∧
  ∀ pl ls pss plans H', DrawnP H H' pl ls pss plans most → plans.length = m → Dice H' d a → SqL K H' a (ns.map V.int) → But d H H' → Q (.ref pl) H'
theorem Paired.mapM {α β : Type} {R R' : α → β → Prop} : ∀ {xs : List α} {ys : List β}, Paired R xs ys → (∀ x ∈ xs, ∀ y, R x y → R' x y) → Paired R' xs ys
  | _, _, .nil, _ => .nil
  | _, _, .cons r t, h => .cons (h _ List.mem_cons_self _ r) (Paired.mapM t fun x hx y => h x (List.mem_cons_of_mem _ hx) y)
theorem Paired.app {α β : Type} {R : α → β → Prop} {x : α} {y : β} : ∀ {xs : List α} {ys : List β}, Paired R xs ys → R x y → Paired R (xs ++ [x]) (ys ++ [y])
  | _, _, .nil, h => .cons h .nil
  | _, _, .cons r t, h => .cons r (Paired.app t h)
theorem DrawnP.mono {H0 H H' : Hp} {pl : Addr} {ls : List Addr} {pss : List (List Addr)} {plans : List (List Deed)} {most : Nat} {F : List Addr} (a : DrawnP H0 H pl ls pss plans most) (o : Off F H H') (n : ∀ x ∈ pl :: ls, x ∉ F) (t : Tu H H') : DrawnP H0 H' pl ls pss plans most :=
  ⟨o _ _ (n _ List.mem_cons_self) a.hpl, Paired.mapM a.hls fun x hx y e => o _ _ (n _ (List.mem_cons_of_mem _ hx)) e, Paired.mapM a.hps fun x _ y e => e.tu t, a.fpl, a.fls, a.npl, a.nls, a.short, a.ok, a.take⟩
theorem DrawnP.add {H0 H : Hp} {pl p : Addr} {ls ps : List Addr} {pss : List (List Addr)} {plans : List (List Deed)} {plan : List Deed} {most : Nat} (a : DrawnP H0 H pl ls pss plans most) (hp : H p = some (.lst (ps.map V.ref))) (hps : PlanAt H ps plan) (fp : H0 p = none) (n1 : p ≠ pl) (n2 : p ∉ ls)
    (h1 : plan.length ≤ most) (h2 : ∀ d ∈ plan, d.ok) (h3 : ∀ d ∈ plan, d = .take → plans.length = 0) : DrawnP H0 (upd H pl (.lst ((ls.map V.ref) ++ [.ref p]))) pl (ls ++ [p]) (pss ++ [ps]) (plans ++ [plan]) most := by
  have t : Tu H (upd H pl (.lst ((ls.map V.ref) ++ [.ref p]))) := Tu.upd fun xs e => by
    rw [a.hpl] at e
    cases e
  refine ⟨?_, ?_, ?_, a.fpl, ?_, ?_, ?_, ?_, ?_, ?_⟩
  · rw [upd_same, List.map_append]
    rfl
  · refine Paired.app (Paired.mapM a.hls fun x hx y e => ?_) ?_
    · rw [upd_ne (fun z => a.npl (by rw [← z]; exact hx))]
      exact e
    · rw [upd_ne n1]
      exact hp
  · exact Paired.app (Paired.mapM a.hps fun x _ y e => e.tu t) (hps.tu t)
  · intro l hl
    rcases List.mem_append.mp hl with hl | hl
    · exact a.fls l hl
    · rw [List.mem_singleton.mp hl]
      exact fp
  · intro hm
    rcases List.mem_append.mp hm with hm | hm
    · exact a.npl hm
    · exact n1 (List.mem_singleton.mp hm).symm
  · refine List.nodup_append.mpr ⟨a.nls, by simp, fun x hx y hy => ?_⟩
    rw [List.mem_singleton.mp hy]
    exact fun z => n2 (by rw [← z]; exact hx)
  · intro q hq
    rcases List.mem_append.mp hq with hq | hq
    · exact a.short q hq
    · rw [List.mem_singleton.mp hq]
      exact h1
  · intro q hq
    rcases List.mem_append.mp hq with hq | hq
    · exact a.ok q hq
    · rw [List.mem_singleton.mp hq]
      exact h2
  · intro i q hq d hd ht
    rcases Nat.lt_or_ge i plans.length with c | c
    · rw [List.getElem?_append_left c] at hq
      exact a.take i q hq d hd ht
    · rw [List.getElem?_append_right c] at hq
      cases e : i - plans.length with
      | zero =>
        rw [e] at hq
        cases hq
        have := h3 d hd ht
        omega
      | succ n =>
        rw [e] at hq
        rw [List.getElem?_cons_succ, List.getElem?_nil] at hq
        cases hq
end Sd
namespace Sd
open PySem L2
def spLong (K : PySem.W.Frag) : Sp := fun vs H Q _ => ∃ (d a : Addr) (ns : List Int) (m : Nat), vs = [.ref d, .int m] ∧ Dice H d a ∧ SqL K H a (ns.map V.int) ∧ m ≤ 100 ∧
  ∀ pl ls pss plans H', DrawnP H H' pl ls pss plans 40 → plans.length = m → Dice H' d a → SqL K H' a (ns.map V.int) → But d H H' → Q (.ref pl) H'
end Sd

/-! what the hand's functions promise -/
namespace Sd
open PySem L2
theorem atI_neg {α : Type} {xs : List α} {k : Nat} {v : α} (hk : 0 < k) (hl : k ≤ xs.length) (h : xs[xs.length - k]? = some v) : atI xs (-(k : Int)) = some v := by
  have e : ixN xs.length (-(k : Int)) = some (xs.length - k) := by
    unfold ixN
    rw [if_neg (by omega), if_pos (by omega)]
    congr 1
    omega
  unfold atI
  rw [e]
  exact h
/-- lists of numbers in a list -/
def LstsAt (H : Hp) (p : Addr) (rps : List Addr) (rows : List (List Int)) : Prop := H p = some (.lst (rps.map V.ref)) ∧ Paired (fun q r => H q = some (.lst (r.map V.int))) rps rows
theorem LstsAt.same {H H' : Hp} {p : Addr} {rps : List Addr} {rows : List (List Int)} (h : LstsAt H p rps rows) (s : Same H H') : LstsAt H' p rps rows := ⟨s _ _ h.1, Paired.mapM h.2 fun x _ y e => s _ _ e⟩
theorem LstsAt.at_ {H : Hp} {p : Addr} {rps : List Addr} {rows : List (List Int)} (h : LstsAt H p rps rows) {i : Nat} {r : List Int} (e : rows[i]? = some r) : ∃ q, atI (rps.map V.ref) (i : Int) = some (.ref q) ∧ H q = some (.lst (r.map V.int)) := by
  obtain ⟨q, hq, hr⟩ := Paired.get h.2 e
  exact ⟨q, atI_nat (by rw [List.getElem?_map, hq]; rfl), hr⟩
theorem LstsAt.neg {H : Hp} {p : Addr} {rps : List Addr} {rows : List (List Int)} (h : LstsAt H p rps rows) {k : Nat} (hk : 0 < k) (hl : k ≤ rows.length) {r : List Int} (e : rows[rows.length - k]? = some r) : ∃ q, atI (rps.map V.ref) (-(k : Int)) = some (.ref q) ∧ H q = some (.lst (r.map V.int)) := by
  have hlen := Paired.len h.2
  obtain ⟨q, hq, hr⟩ := Paired.get h.2 e
  exact ⟨q, atI_neg hk (by rw [List.length_map]; omega) (by rw [List.length_map, hlen, List.getElem?_map, hq]; rfl), hr⟩
theorem last_at {rs : List (List Int)} (h : rs ≠ []) : rs[rs.length - 1]? = some (last rs) := by
  have h0 : 0 < rs.length := List.length_pos_iff.mpr h
  unfold last
  rw [List.getLastD_eq_getLast?, List.getLast?_eq_getElem?, List.getElem?_eq_getElem (by omega)]
  rfl
theorem last2_at {rs : List (List Int)} (h : 2 ≤ rs.length) : rs[rs.length - 2]? = some (last rs.dropLast) := by
  have e := last_at (rs := rs.dropLast) (fun z => by
    have := congrArg List.length z
    rw [List.length_dropLast, List.length_nil] at this
    omega)
  rw [List.length_dropLast] at e
  rw [← e, show rs.length - 1 - 1 = rs.length - 2 by omega, List.getElem?_dropLast, if_pos (by omega)]
def spCnt : Sp := fun vs H Q _ => ∃ (dp rs : Addr) (d : Deed) (ones : Int) (rps : List Addr) (rds : List (List Int)), vs = [.ref dp, .int ones, .ref rs] ∧ DeedAt H dp d ∧ d.thing = 0 ∧ LstsAt H rs rps rds ∧
  ∀ u H', Same H H' → OutAt H' u (cntOut d ones rds) → Q u H'
def spPacked (K : PySem.W.Frag) : Sp := fun vs H Q _ => ∃ (a : Addr) (row : List Int), vs = [.ref a] ∧ SqL K H a (row.map V.int) ∧ In6 row ∧ Q (.int (enc row)) H
def spParted : Sp := fun vs H Q _ => ∃ (n : Int) (row : List Int), vs = [.int n] ∧ In6 row ∧ row.length ≤ 1000 ∧ (n = enc row ∨ (n = 0 ∧ row = [])) ∧ ∀ p, H p = none → ∀ H', Same H H' → H' p = some (.lst (row.map V.int)) → Q (.ref p) H'
def spRow : Sp := fun vs H Q _ => ∃ (n : Int) (many : Nat), vs = [.int n] ∧ PicOk many n ∧ many ≤ 4 ∧ ∀ p, H p = none → ∀ H', Same H H' → H' p = some (.lst ((row0 n).map V.int)) → Q (.ref p) H'
def spCellB : Sp := fun vs H Q _ => ∃ (dp : Addr) (d : Deed) (c : Int), vs = [.ref dp, .int c] ∧ DeedAt H dp d ∧ (∃ n, d = .set n ∨ d = .add n ∨ d = .rais n) ∧ Q (.int (behindCell c d)) H
def spView : Sp := fun vs H Q _ => ∃ (rs : Addr) (rps : List Addr) (rds : List (List Int)) (many : Nat), vs = [.ref rs] ∧ LstsAt H rs rps rds ∧ (∀ r ∈ rds, RdOk many 1 r) ∧ many ≤ 4 ∧ 0 < many ∧ rds.length ≤ 1000 ∧
  (view many rds = none → ∀ H', Same H H' → Q .non H') ∧ ∀ v, view many rds = some v → ∀ p H', H p = none → Same H H' → H' p = some (.lst (v.map V.int)) → Q (.ref p) H'
def spPic : Sp := fun vs H Q _ => ∃ (dp rs : Addr) (rps : List Addr) (rds : List (List Int)) (many i : Nat) (d : Deed), vs = [.ref dp, .int i, .ref rs] ∧ DeedAt H dp d ∧ d.thing ≠ 0 ∧ d.thing ≠ 4 ∧ d.ok ∧ i < many ∧ LstsAt H rs rps rds ∧ (∀ r ∈ rds, RdOk many 1 r) ∧ many ≤ 4 ∧ rds.length ≤ 1000 ∧
  ∀ u H', Same H H' → OutAt H' u (picOut many i d rds) → Q u H'
def trip (x : Int × Nat × Int) : List Int := [x.1, x.2.1, x.2.2]
def TooksAt (H : Hp) (tk : Addr) (took : List Nat) : Prop := H tk = some (.lst (took.map fun n : Nat => V.int (n : Int)))
def RowOk (row : List Int) : Prop := In5 row ∧ row.length ≤ 900 ∧ row.length % 2 = 0
def spLeft : Sp := fun vs H Q _ => ∃ (rp tk : Addr) (rps : List Addr) (rows : List (List Int)) (took : List Nat), vs = [.ref rp, .ref tk] ∧ LstsAt H rp rps rows ∧ TooksAt H tk took ∧ took.length = rows.length ∧ rows.length ≤ 1000 ∧ (∀ r ∈ rows, RowOk r) ∧
  ∀ p H' (bs : List (Addr × List Int)), H p = none → Same H H' → H' p = some (.lst (bs.map fun b => V.ref b.1)) → (∀ b ∈ bs, H' b.1 = some (.tup (b.2.map V.int))) → bs.map (·.2) = (left took rows).map trip → Q (.ref p) H'
def spGiven : Sp := fun vs H Q _ => ∃ (rp : Addr) (rps : List Addr) (rows : List (List Int)) (i : Nat) (n : Int), vs = [.ref rp, .int i, .int n] ∧ LstsAt H rp rps rows ∧ i < rows.length ∧ rows.length ≤ 1000 ∧ (∀ r ∈ rows, RowOk r) ∧ 0 ≤ n ∧ n ≤ 999 ∧
  ∀ u H', Same H H' → OutAt H' u (some ⟨some (enc (rows.getD i [] ++ [n, stamp rows])), .non, .gift i ((rows.getD i []).length / 2)⟩) → Q u H'
def spLine : Sp := fun vs H Q _ => ∃ (dp rs tk : Addr) (rps : List Addr) (rds : List (List Int)) (took : List Nat) (many i : Nat) (d : Deed), vs = [.ref dp, .int i, .ref tk, .ref rs] ∧ DeedAt H dp d ∧ d.thing = 4 ∧ d.ok ∧ i < many ∧ LstsAt H rs rps rds ∧ (∀ r ∈ rds, RdOk many 4 r) ∧ many ≤ 4 ∧ rds.length ≤ 1000 ∧
  TooksAt H tk took ∧ took.length = many ∧ ∀ u H', Same H H' → OutAt H' u (lineOut i d took rds) → Q u H'
theorem Row.sp {n : Int} {row : List Int} (h : Row n row) : In6 row ∧ (n = enc row ∨ (n = 0 ∧ row = [])) := h
end Sd
namespace Sd
open PySem L2 PySem.W
def rMax0 (K : PySem.W.Frag) : List V → List V → Hp → VK → Prop := fun vs zs H Q => ∃ (a : Addr) (ns : List Int), vs = [V.ref a] ∧ zs = [.int 0] ∧ SqL K H a (ns.map V.int) ∧ (∀ x ∈ ns, 0 ≤ x) ∧ Q (.int (top0 ns)) H
theorem cr_max0 {X : Cx} (hc : X.calm = true) (hu : X.A.units + 64 < cLine) : CallRK X (.builtin "max") ["default"] (rMax0 X.K) := by
  intro pins s σ H xs zs us ws Q I r1 r2 h
  obtain ⟨a, ns, rfl, rfl, hs, h0, q⟩ := h
  refine cr_maxDef hc hu pins s σ H _ _ us ws Q I r1 r2 ⟨a, ns, .int 0, rfl, rfl, hs, fun e => ?_, fun m h1 h2 => ?_⟩
  · rw [e] at q
    exact q
  · rw [top0_of h0 h1 h2]
    exact q
/-- max of numbers from 0 on -/
def rMaxP (K : PySem.W.Frag) : List V → Hp → VK → Prop := fun vs H Q => ∃ (a : Addr) (ns : List Int), vs = [V.ref a] ∧ SqL K H a (ns.map V.int) ∧ 0 < ns.length ∧ (∀ x ∈ ns, 0 ≤ x) ∧ Q (.int (top0 ns)) H
theorem cr_maxP {X : Cx} (hc : X.calm = true) : CallR X (.builtin "max") (rMaxP X.K) := by
  intro pins s σ H xs us Q I r h
  obtain ⟨a, ns, rfl, hs, hl, h0, q⟩ := h
  refine cr_max hc pins s σ H _ us Q I r ⟨a, ns, rfl, hs, hl, fun m h1 h2 => ?_⟩
  rw [top0_of h0 h1 h2]
  exact q
theorem trip_min {l : List (Int × Nat × Int)} (hp : l.Pairwise (fun a b => a.2.1 < b.2.1)) {y b : Int × Nat × Int} (hy : least l = some y) (hb : b ∈ l) (hm : ∀ c ∈ l, listLt (trip c) (trip b) = false) : b = y := by
  have hne : l ≠ [] := fun e => by rw [e] at hb; cases hb
  obtain ⟨y', e, hy2, h3⟩ := least_some hp hne
  rw [hy] at e
  cases e
  have h1 := hm y hy2
  have h2 := h3 b hb
  have e : listLt (trip y) (trip b) = if y.1 = b.1 then (if (y.2.1 : Int) = b.2.1 then (if y.2.2 = b.2.2 then false else decide (y.2.2 < b.2.2)) else decide ((y.2.1 : Int) < b.2.1)) else decide (y.1 < b.1) := rfl
  rw [e] at h1
  rcases h2 with h2 | ⟨h2, h4 | h4⟩
  · rw [if_neg (by omega), decide_eq_true h2] at h1
    cases h1
  · exact h4.symm
  · rw [if_pos h2, if_neg (by omega), decide_eq_true (by omega)] at h1
    cases h1
end Sd
namespace Sd
open PySem L2 PySem.W
theorem eqv_ints2 (a b : List Int) : PyData.eqv (dInts a) (dInts b) = decide (a = b) := Datum.eqv (α := List Int) a b
theorem PicOk.two {many : Nat} {n : Int} (h : PicOk many n) : (Sd.row0 n)[0]? = some ((Sd.row0 n).getD 0 0) ∧ (Sd.row0 n)[1]? = some ((Sd.row0 n).getD 1 0) := by
  obtain ⟨p, c, v, e, _⟩ := h.row0
  rw [e]
  exact ⟨rfl, rfl⟩
theorem range_drop {m i : Nat} (h : i < m) : (List.range m).drop i = i :: (List.range m).drop (i + 1) := by
  rw [List.drop_eq_getElem_cons (by rw [List.length_range]; exact h), List.getElem_range]
end Sd
namespace Sd
open PySem L2
/-- boxes in the heap -/
structure BxAt (C : Addr) (H : Hp) (b l : Addr) (xs : List Int) : Prop where
  ob : ∃ dx, H b = some (.ins C dx (bfs (.ref l)))
  ls : H l = some (.lst (xs.map V.int))
def spBNeed (C : Addr) : Sp := fun vs H Q _ => ∃ (b l : Addr) (xs : List Int) (j : Nat), vs = [.ref b, .int j] ∧ BxAt C H b l xs ∧ j < xs.length ∧ Q .non H
def spBTake (C : Addr) : Sp := fun vs H Q _ => ∃ (b l : Addr) (xs : List Int) (j : Nat), vs = [.ref b, .int j] ∧ BxAt C H b l xs ∧ j < xs.length ∧ Q (.int (xs.getD j 0)) H
def spBPut (C : Addr) : Sp := fun vs H Q _ => ∃ (b l : Addr) (xs : List Int) (j : Nat) (n : Int), vs = [.ref b, .int j, .int n] ∧ BxAt C H b l xs ∧ j < xs.length ∧ Q .non (upd H l (.lst ((xs.set j n).map V.int)))
def spThrough (C : Addr) : Sp := fun vs H Q _ => ∃ (g : HG) (i m : Nat) (plan : List Deed) (h : HandM), vs = [.ref g.hp] ∧ HandAt C H g i m plan h ∧ Q (.bl (decide (h.ended = plan.length))) H
/-- what is kept of the boxes is as the deed's thing wants it -/
structure RdPre (m : Nat) (d : Deed) (h : HandM) (i : Nat) : Prop where
  hi : i < m
  m4 : m ≤ 4
  ok : d.ok
  took : h.took.length = m
  rds : ∀ r ∈ h.readings, RdOk m d.thing r
  len : h.readings.length ≤ 1000
def spOutOf (C : Addr) : Sp := fun vs H Q _ => ∃ (g : HG) (dp : Addr) (i m : Nat) (plan : List Deed) (h : HandM) (d : Deed), vs = [.ref g.hp, .ref dp] ∧ HandAt C H g i m plan h ∧ DeedAt H dp d ∧ RdPre m d h i ∧
  ∀ u H', Same H H' → OutAt H' u (outOf m i d h) → Q u H'
/-- a hand's objects afterwards -/
def Grow (H : Hp) (g g' : HG) : Prop := g'.hp = g.hp ∧ ∀ x ∈ g'.list, x ∈ g.list ∨ H x = none
def spKeepN (C : Addr) : Sp := fun vs H Q _ => ∃ (g : HG) (dp : Addr) (i m : Nat) (plan : List Deed) (h : HandM) (d : Deed) (n : Int), vs = [.ref g.hp, .int n, .ref dp] ∧ HandAt C H g i m plan h ∧ DeedAt H dp d ∧ RdPre m d h i ∧ h.readings.length < 1000 ∧
  h.reading.length < m ∧ (∀ x ∈ h.reading, BoxOk m d.thing x) ∧ BoxOk m d.thing n ∧ ∀ g' H', HandAt C H' g' i m plan (h.keep m i d n) → Grow H g g' → Off g.list H H' → Q .non H'
def spHEnd (C : Addr) : Sp := fun vs H Q _ => ∃ (g : HG) (dp : Addr) (i m now : Nat) (plan : List Deed) (h : HandM) (d : Deed) (o : Out), vs = [.ref g.hp, .ref dp, .int now] ∧ HandAt C H g i m plan h ∧ DeedAt H dp d ∧ h.out = some o ∧ h.took.length = m ∧
  (∀ k l, o.mark = .gift k l → d = .take → k < m) ∧
  ∀ t rv mv H', H' t = some (.tup [rv, mv]) → RecAt H' rv (h.done i d now o).2.1 → MarkAt H' mv (h.done i d now o).2.2 → HandAt C H' g i m plan (h.done i d now o).1 → Off g.list H H' → Q (.ref t) H'
end Sd
namespace Sd
open PySem L2
def EndAt (H : Hp) (v : V) : Option (Rec × Mark) → Prop
  | none => v = .non
  | some (r, mk) => ∃ t rv mv, v = .ref t ∧ H t = some (.tup [rv, mv]) ∧ RecAt H rv r ∧ MarkAt H mv mk
theorem EndAt.tu {H H' : Hp} {v : V} {e : Option (Rec × Mark)} (h : EndAt H v e) (t : Tu H H') : EndAt H' v e := by
  cases e with
  | none => exact h
  | some x =>
    obtain ⟨p, rv, mv, e1, e2, e3, e4⟩ := h
    exact ⟨p, rv, mv, e1, t _ _ e2, e3.tu t, e4.tu t⟩
/-- the hand's own fields are stored anew, its lists are the same -/
theorem HandAt.store {C : Addr} {H : Hp} {g : HG} {i m : Nat} {plan : List Deed} {h h' : HandM} {dx : Addr} {fs : List (Str × V)} {ov : V} (a : HandAt C H g i m plan h) (e1 : h'.took = h.took) (e2 : h'.reading = h.reading) (e3 : h'.readings = h.readings)
    (ho : OutAt H ov h'.out) (hob : H g.hp = some (.ins C dx fs)) :
    HandAt C (upd H g.hp (.ins C dx (hfs (.int i) (.ref g.pl) (.int m) (.int h'.ended) (.int h'.ones) (.ref g.tk) (.int h'.beg) ov (.ref g.rd) (.ref g.rs) (.int h'.steps)))) g i m plan h' := by
  have t : Tu H (upd H g.hp (.ins C dx (hfs (.int i) (.ref g.pl) (.int m) (.int h'.ended) (.int h'.ones) (.ref g.tk) (.int h'.beg) ov (.ref g.rd) (.ref g.rs) (.int h'.steps)))) := Tu.upd fun xs e => by
    rw [hob] at e
    cases e
  have n : ∀ {x : Addr} {xs : List V}, H x = some (.lst xs) → x ≠ g.hp := fun e z => by rw [z, hob] at e; cases e
  obtain ⟨ps, p1, p2⟩ := a.pl
  refine ⟨⟨dx, ov, upd_same, ho.tu t⟩, ⟨ps, by rw [upd_ne (n p1)]; exact p1, p2.tu t⟩, ?_, ?_, ?_, ?_, a.n1, a.n2⟩
  · rw [upd_ne (n a.tk), e1]; exact a.tk
  · rw [upd_ne (n a.rd), e2]; exact a.rd
  · rw [upd_ne (n a.rs)]; exact a.rs
  · rw [e3]
    exact Paired.mapM a.rr fun x _ y e => by rw [upd_ne (n e)]; exact e
theorem HandAt.took {C : Addr} {H : Hp} {g : HG} {i m : Nat} {plan : List Deed} {h : HandM} (a : HandAt C H g i m plan h) (tk : List Nat) :
    HandAt C (upd H g.tk (.lst (tk.map fun n : Nat => V.int (n : Int)))) g i m plan { h with took := tk } := by
  have t : Tu H (upd H g.tk (.lst (tk.map fun n : Nat => V.int (n : Int)))) := Tu.upd fun xs e => by
    rw [a.tk] at e
    cases e
  obtain ⟨dx, ov, o1, o2⟩ := a.ob
  obtain ⟨n1, n2, n3, n4, n5, n6⟩ := a.n1
  obtain ⟨ps, p1, p2⟩ := a.pl
  refine ⟨⟨dx, ov, by rw [upd_ne (ne_of o1 a.tk (by intro z; cases z))]; exact o1, o2.tu t⟩, ⟨ps, by rw [upd_ne n4]; exact p1, p2.tu t⟩, upd_same, ?_, ?_, ?_, a.n1, a.n2⟩
  · rw [upd_ne n1.symm]; exact a.rd
  · rw [upd_ne n2.symm]; exact a.rs
  · exact Paired.mapM a.rr fun x hx y e => by rw [upd_ne (fun z => a.n2.1 (by rw [← z]; exact hx))]; exact e
def spHEnd2 (C : Addr) : Sp := fun vs H Q _ => ∃ (g : HG) (dp : Addr) (i m now : Nat) (plan : List Deed) (h : HandM) (d : Deed) (o : Out), vs = [.ref g.hp, .ref dp, .int now] ∧ HandAt C H g i m plan h ∧ DeedAt H dp d ∧ h.out = some o ∧ h.took.length = m ∧
  (d = .take → o.mark = .non ∨ ∃ k l, o.mark = .gift k l ∧ k < m) ∧
  ∀ t H', EndAt H' (.ref t) (some (h.done i d now o).2) → HandAt C H' g i m plan (h.done i d now o).1 → Off g.list H H' → Q (.ref t) H'
/-- what a step leaves -/
def spHStep (CB C : Addr) : Sp := fun vs H Q _ => ∃ (g : HG) (bx bl : Addr) (i m now : Nat) (plan : List Deed) (h : HandM) (d : Deed) (boxes : List Int), vs = [.ref g.hp, .ref bx, .int now] ∧ HandAt C H g i m plan h ∧ plan[h.ended]? = some d ∧ HandPre m i d boxes h ∧ BxAt CB H bx bl boxes ∧
  bx ∉ g.list ∧ bl ∉ g.list ∧ ∀ z tv ev g' H', H' z = some (.tup [tv, ev]) → TouchAt H' tv (h.step m i d boxes now).touch → EndAt H' ev (h.step m i d boxes now).ended → HandAt C H' g' i m plan (h.step m i d boxes now).hand →
    BxAt CB H' bx bl (h.step m i d boxes now).boxes → Grow H g g' → Off (bl :: g.list) H H' → Q (.ref z) H'
end Sd
namespace Sd
open PySem L2
theorem HandAt.newrs {C : Addr} {H : Hp} {g : HG} {i m : Nat} {plan : List Deed} {h h' : HandM} {dx r : Addr} {fs : List (Str × V)} {ov : V} (a : HandAt C H g i m plan h) (hr : H r = none) (e1 : h'.took = h.took) (e2 : h'.reading = h.reading) (e3 : h'.readings = [])
    (ho : OutAt H ov h'.out) (hob : H g.hp = some (.ins C dx fs)) :
    HandAt C (upd (upd H r (.lst [])) g.hp (.ins C dx (hfs (.int i) (.ref g.pl) (.int m) (.int h'.ended) (.int h'.ones) (.ref g.tk) (.int h'.beg) ov (.ref g.rd) (.ref r) (.int h'.steps)))) ⟨g.hp, g.tk, g.rd, r, g.pl, []⟩ i m plan h' := by
  have s := Same.new (o := .lst []) hr
  have hob1 := s _ _ hob
  have c1 : upd H r (.lst []) r = some (.lst []) := upd_same
  have t : Tu H (upd (upd H r (.lst [])) g.hp (.ins C dx (hfs (.int i) (.ref g.pl) (.int m) (.int h'.ended) (.int h'.ones) (.ref g.tk) (.int h'.beg) ov (.ref g.rd) (.ref r) (.int h'.steps)))) := (Tu.same s).trans (Tu.upd fun xs e => by
    rw [hob1] at e
    cases e)
  have n : ∀ {x : Addr} {xs : List V}, H x = some (.lst xs) → x ≠ g.hp := fun e z => by rw [z, hob] at e; cases e
  have nr : ∀ {x : Addr} {o : HO}, H x = some o → x ≠ r := fun e => ne_of_none e hr
  have st : ∀ {x : Addr} {xs : List V}, H x = some (.lst xs) → upd (upd H r (.lst [])) g.hp (.ins C dx (hfs (.int i) (.ref g.pl) (.int m) (.int h'.ended) (.int h'.ones) (.ref g.tk) (.int h'.beg) ov (.ref g.rd) (.ref r) (.int h'.steps))) x = some (.lst xs) := fun e => by
    rw [upd_ne (n e)]
    exact s _ _ e
  obtain ⟨ps, p1, p2⟩ := a.pl
  obtain ⟨n1, n2, n3, n4, n5, n6⟩ := a.n1
  refine ⟨⟨dx, ov, upd_same, ho.tu t⟩, ⟨ps, st p1, p2.tu t⟩, by rw [e1]; exact st a.tk, by rw [e2]; exact st a.rd, ?_, by rw [e3]; exact .nil, ⟨n1, nr a.tk, nr a.rd, n4, n5, nr p1⟩, by simp⟩
  rw [upd_ne (nr hob).symm]
  exact c1
end Sd

/-! what the hall's methods promise -/
namespace Sd
open PySem L2
theorem HallAt.own_tracked {CB CD CH : Addr} {H : Hp} {g : HallG} {s : HallM} (a : HallAt CB CD CH H g s) : ∀ x ∈ g.own, ∃ o, H x = some o := by
  intro x hx
  obtain ⟨dx, h1⟩ := a.ob
  obtain ⟨dx2, h2⟩ := a.bx
  obtain ⟨v1, h3, _⟩ := a.rc
  obtain ⟨v2, h4, _⟩ := a.mr
  obtain ⟨v3, h5, _⟩ := a.tc
  simp only [HallG.own, List.mem_cons, List.not_mem_nil, or_false] at hx
  rcases hx with rfl | rfl | rfl | rfl | rfl | rfl | rfl
  · exact ⟨_, h1⟩
  · exact ⟨_, h2⟩
  · exact ⟨_, a.bl⟩
  · exact ⟨_, a.hl⟩
  · exact ⟨_, h3⟩
  · exact ⟨_, h4⟩
  · exact ⟨_, h5⟩
theorem HallAt.own_noTup {CB CD CH : Addr} {H : Hp} {g : HallG} {s : HallM} (a : HallAt CB CD CH H g s) : ∀ x ∈ g.own, ∀ xs, H x ≠ some (.tup xs) := by
  intro x hx xs e
  obtain ⟨dx, h1⟩ := a.ob
  obtain ⟨dx2, h2⟩ := a.bx
  obtain ⟨v1, h3, _⟩ := a.rc
  obtain ⟨v2, h4, _⟩ := a.mr
  obtain ⟨v3, h5, _⟩ := a.tc
  simp only [HallG.own, List.mem_cons, List.not_mem_nil, or_false] at hx
  rcases hx with rfl | rfl | rfl | rfl | rfl | rfl | rfl
  · rw [h1] at e; cases e
  · rw [h2] at e; cases e
  · rw [a.bl] at e; cases e
  · rw [a.hl] at e; cases e
  · rw [h3] at e; cases e
  · rw [h4] at e; cases e
  · rw [h5] at e; cases e
theorem HallAt.noTup {CB CD CH : Addr} {H : Hp} {g : HallG} {s : HallM} (a : HallAt CB CD CH H g s) : ∀ x ∈ g.list, ∀ xs, H x ≠ some (.tup xs) := by
  intro x hx
  rcases List.mem_append.mp hx with hx | hx
  · exact a.own_noTup x hx
  · obtain ⟨y, hy, hxy⟩ := List.mem_flatMap.mp hx
    obtain ⟨i, hi, e⟩ := List.mem_iff_getElem.mp hy
    exact (a.hand i y (by rw [List.getElem?_eq_getElem hi, e])).noTup x hxy
theorem HallAt.tracked {CB CD CH : Addr} {H : Hp} {g : HallG} {s : HallM} (a : HallAt CB CD CH H g s) : ∀ x ∈ g.list, ∃ o, H x = some o := by
  intro x hx
  rcases List.mem_append.mp hx with hx | hx
  · exact a.own_tracked x hx
  · obtain ⟨y, hy, hxy⟩ := List.mem_flatMap.mp hx
    obtain ⟨i, hi, e⟩ := List.mem_iff_getElem.mp hy
    exact (a.hand i y (by rw [List.getElem?_eq_getElem hi, e])).tracked x hxy
theorem HallG.in_list {g : HallG} {i : Nat} {x : HG} (h : g.hs[i]? = some x) {y : Addr} (hy : y ∈ x.list) : y ∈ g.list := List.mem_append.mpr (.inr (List.mem_flatMap.mpr ⟨x, List.mem_of_getElem? h, hy⟩))
/-- a hall, what else stands being changed -/
theorem HallAt.off {CB CD CH : Addr} {H H' : Hp} {g : HallG} {s : HallM} {F : List Addr} (a : HallAt CB CD CH H g s) (o : Off F H H') (n : ∀ x ∈ g.list, x ∉ F) (t : Tu H H') : HallAt CB CD CH H' g s := by
  have nn : ∀ x ∈ g.own, x ∉ F := fun x hx => n x (List.mem_append.mpr (.inl hx))
  obtain ⟨dx, h1⟩ := a.ob
  obtain ⟨dx2, h2⟩ := a.bx
  obtain ⟨v1, h3, p3⟩ := a.rc
  obtain ⟨v2, h4, p4⟩ := a.mr
  obtain ⟨v3, h5, p5⟩ := a.tc
  exact ⟨⟨dx, o _ _ (nn _ (by simp)) h1⟩, ⟨dx2, o _ _ (nn _ (by simp)) h2⟩, o _ _ (nn _ (by simp)) a.bl, o _ _ (nn _ (by simp)) a.hl, ⟨v1, o _ _ (nn _ (by simp)) h3, Paired.mapM p3 fun x _ y e => e.tu t⟩, ⟨v2, o _ _ (nn _ (by simp)) h4, Paired.mapM p4 fun x _ y e => e.tu t⟩,
    ⟨v3, o _ _ (nn _ (by simp)) h5, Paired.mapM p5 fun x _ y e => e.tu t⟩, a.len, fun i x hx => (a.hand i x hx).off o (fun y hy => n y (HallG.in_list hx hy)) t, a.own, a.apart, a.sep⟩
theorem HallAt.same {CB CD CH : Addr} {H H' : Hp} {g : HallG} {s : HallM} (a : HallAt CB CD CH H g s) (e : Same H H') : HallAt CB CD CH H' g s := a.off (F := []) (Off.of_same e) (by simp) (Tu.same e)
def HGrow (H : Hp) (g g' : HallG) : Prop := g'.ha = g.ha ∧ ∀ x ∈ g'.list, x ∈ g.list ∨ H x = none
theorem HGrow.refl (H : Hp) (g : HallG) : HGrow H g g := ⟨rfl, fun _ h => .inl h⟩
theorem HGrow.trans {H H1 : Hp} {g g1 g2 : HallG} (a : HGrow H g g1) (b : HGrow H1 g1 g2) (o : Off g.list H H1) : HGrow H g g2 := ⟨b.1.trans a.1, fun x hx => by
  rcases b.2 x hx with h | h
  · exact a.2 x h
  · by_cases e : x ∈ g.list
    · exact .inl e
    · refine .inr ?_
      cases z : H x with
      | none => rfl
      | some u => rw [o x u e z] at h; cases h⟩
theorem Off.grow {H H1 H2 : Hp} {F F' : List Addr} (a : Off F H H1) (b : Off F' H1 H2) (g : ∀ x ∈ F', x ∈ F ∨ H x = none) : Off F H H2 := fun x o n e => b x o (fun m => by
  rcases g x m with h | h
  · exact n h
  · rw [h] at e; cases e) (a x o n e)
theorem HallAt.after {CB CD CH : Addr} {H H1 H' : Hp} {g : HallG} {s : HallM} {i : Nat} {x x' : HG} {st : Step} (a : HallAt CB CD CH H g s) (hx : g.hs[i]? = some x) (hl : s.hands.length = s.many)
    (h1 : HandAt CD H1 x' i s.many (s.plan i) st.hand) (b1 : BxAt CB H1 g.bx g.bl st.boxes) (gr : Grow H x x') (o1 : Off (g.bl :: x.list) H H1) (o2 : Off [g.tc, g.rc, g.mr] H1 H')
    (tc : ∃ vs, H' g.tc = some (.lst vs) ∧ Paired (TouchAt H') vs (s.put i st).touches) (rc : ∃ vs, H' g.rc = some (.lst vs) ∧ Paired (RecAt H') vs (s.put i st).recs) (mr : ∃ vs, H' g.mr = some (.lst vs) ∧ Paired (MarkAt H') vs (s.put i st).marks) :
    HallAt CB CD CH H' { g with hs := g.hs.set i x' } (s.put i st) ∧ Off g.list H H' ∧ HGrow H g { g with hs := g.hs.set i x' } := by
  have hil : i < g.hs.length := (List.getElem?_eq_some_iff.mp hx).1
  have t1 : Tu H H1 := Tu.off o1 fun y hy => by
    rcases List.mem_cons.mp hy with rfl | hy
    · exact a.own_noTup _ (by simp)
    · exact (a.hand i x hx).noTup y hy
  have t2 : Tu H1 H' := Tu.off o2 fun y hy xs e => by
    have ho : y ∈ g.own := by
      simp only [List.mem_cons, List.not_mem_nil, or_false, HallG.own] at hy ⊢
      rcases hy with rfl | rfl | rfl <;> simp
    obtain ⟨o, ho2⟩ := a.own_tracked y ho
    have ny : y ∉ g.bl :: x.list := fun m => by
      rcases List.mem_cons.mp m with rfl | m
      · have := a.own.1
        simp only [List.nodup_cons, List.mem_cons, List.not_mem_nil, or_false, not_or] at this hy
        obtain ⟨⟨_, q1, q2, q3⟩, _⟩ := this
        rcases hy with h | h | h
        · exact q3 h
        · exact q1 h
        · exact q2 h
      · exact a.apart i x hx y m ho
    have := o1 y o ny ho2
    rw [this] at e
    cases e
    exact a.own_noTup y ho _ ho2
  have tr := a.own_tracked
  have nd := a.own.1
  simp only [List.nodup_cons, List.mem_cons, List.not_mem_nil, or_false, not_or, List.nodup_nil, and_true, not_false_eq_true] at nd
  obtain ⟨⟨e1, e2, e3, e4⟩, ⟨e5, e6, e7⟩, ⟨e8, e9⟩, e10⟩ := nd
  have nx : ∀ y ∈ g.own, y ∉ x.list := fun y hy m => a.apart i x hx y m hy
  have nx' : ∀ y ∈ g.own, y ∉ x'.list := fun y hy m => by
    rcases gr.2 y m with h | h
    · exact nx y hy h
    · obtain ⟨o, ho⟩ := tr y hy
      rw [h] at ho; cases ho
  obtain ⟨dx, hob⟩ := a.ob
  obtain ⟨dxb, hbx⟩ := b1.ob
  have nha : ∀ {y : Addr} {xs : List V}, H y = some (.lst xs) → y ≠ g.ha := fun e z => by rw [z, hob] at e; cases e
  obtain ⟨v1, r1, p1⟩ := a.rc
  obtain ⟨v2, r2, p2⟩ := a.mr
  obtain ⟨v3, r3, p3⟩ := a.tc
  have s1 : ∀ {y : Addr} {o : HO}, y ∈ g.own → y ≠ g.bl → H y = some o → H1 y = some o := fun hy n e => o1 _ _ (fun m => by
    rcases List.mem_cons.mp m with z | m
    · exact n z
    · exact nx _ hy m) e
  have n3 : ∀ {y : Addr}, y ≠ g.tc → y ≠ g.rc → y ≠ g.mr → y ∉ [g.tc, g.rc, g.mr] := fun a1 a2 a3 m => by
    simp only [List.mem_cons, List.not_mem_nil, or_false] at m
    rcases m with h | h | h
    · exact a1 h
    · exact a2 h
    · exact a3 h
  have ob1 := s1 (by simp) (nha a.bl).symm hob
  have obH' := o2 _ _ (n3 (nha r3).symm (nha r1).symm (nha r2).symm) ob1
  have nbx : ∀ {y : Addr} {xs : List V}, H1 y = some (.lst xs) → y ≠ g.bx := fun e z => by rw [z, hbx] at e; cases e
  have r1' := s1 (by simp) (Ne.symm e2) r1
  have r2' := s1 (by simp) (Ne.symm e3) r2
  have r3' := s1 (by simp) (Ne.symm e4) r3
  have hset : ∀ (j : Nat) (y : HG), (g.hs.set i x')[j]? = some y → (j = i ∧ y = x') ∨ (j ≠ i ∧ g.hs[j]? = some y) := fun j y hy => by
    by_cases e : j = i
    · rw [e, List.getElem?_set_self hil] at hy
      cases hy
      exact .inl ⟨e, rfl⟩
    · rw [List.getElem?_set_ne (Ne.symm e)] at hy
      exact .inr ⟨e, hy⟩
  have o3x : ∀ {z : HG}, (∀ y ∈ z.list, y ∉ g.own) → ∀ y ∈ z.list, y ∉ [g.tc, g.rc, g.mr] := fun h y hy => by
    have := h y hy
    simp only [HallG.own, List.mem_cons, List.not_mem_nil, or_false, not_or] at this
    obtain ⟨_, _, _, _, q1, q2, q3⟩ := this
    exact n3 q3 q1 q2
  have ax' : ∀ y ∈ x'.list, y ∉ g.own := fun y hy m => nx' y m hy
  refine ⟨⟨⟨dx, obH'⟩, ⟨dxb, o2 _ _ (n3 (nbx r3').symm (nbx r1').symm (nbx r2').symm) hbx⟩, o2 _ _ (n3 e4 e2 e3) b1.ls, ?_, rc, mr, tc, ?_, ?_, a.own, ?_, ?_⟩, ?_, rfl, ?_⟩
  · have := o2 _ _ (n3 e7 e5 e6) (s1 (by simp) (Ne.symm e1) a.hl)
    refine this.trans ?_
    have e : (g.hs.set i x').map (fun x => V.ref x.hp) = g.hs.map fun x => V.ref x.hp := by
      rw [List.map_set, gr.1]
      have : (g.hs.map fun x => V.ref x.hp)[i]? = some (V.ref x.hp) := by rw [List.getElem?_map, hx]; rfl
      obtain ⟨hi2, e3⟩ := List.getElem?_eq_some_iff.mp this
      rw [← e3]
      exact List.set_getElem_self hi2
    rw [e]
  · show (g.hs.set i x').length = _
    rw [List.length_set]
    exact a.len
  · intro j y hy
    rcases hset j y hy with ⟨rfl, rfl⟩ | ⟨e, hy⟩
    · have e1 : (s.put j st).hand j = st.hand := by
        show (s.hands.set j st.hand).getD j _ = _
        rw [List.getD_eq_getElem?_getD, List.getElem?_set_self (by rw [hl, ← a.len]; exact hil)]
        rfl
      rw [e1]
      exact h1.off o2 (o3x ax') t2
    · have e1 : (s.put i st).hand j = s.hand j := by
        show (s.hands.set i st.hand).getD j _ = s.hands.getD j _
        rw [List.getD_eq_getElem?_getD, List.getElem?_set_ne (Ne.symm e), List.getD_eq_getElem?_getD]
      rw [e1]
      refine ((a.hand j y hy).off o1 (fun z hz m => ?_) t1).off o2 (o3x (a.apart j y hy)) t2
      rcases List.mem_cons.mp m with h | m
      · exact a.apart j y hy z hz (by rw [h]; simp)
      · exact a.sep j i y x e hy hx z hz m
  · intro j y hy
    rcases hset j y hy with ⟨rfl, rfl⟩ | ⟨e, hy⟩
    · exact ax'
    · exact a.apart j y hy
  · intro j k y z n hy hz w hw hw2
    rcases hset j y hy with ⟨rfl, rfl⟩ | ⟨c1, hyo⟩
    · rcases hset k z hz with ⟨rfl, rfl⟩ | ⟨c2, hz⟩
      · exact n rfl
      · rcases gr.2 w hw with h | h
        · exact a.sep j k x z n hx hz w h hw2
        · obtain ⟨o, ho⟩ := (a.hand k z hz).tracked w hw2
          rw [h] at ho; cases ho
    · rcases hset k z hz with ⟨rfl, rfl⟩ | ⟨c2, hz⟩
      · rcases gr.2 w hw2 with h | h
        · exact a.sep j k y x n hyo hx w hw h
        · obtain ⟨o, ho⟩ := (a.hand j y hyo).tracked w hw
          rw [h] at ho; cases ho
      · exact a.sep j k y z n hyo hz w hw hw2
  · intro y o n e
    refine o2 y o (fun m => n ?_) (o1 y o (fun m => n ?_) e)
    · refine List.mem_append.mpr (.inl ?_)
      simp only [List.mem_cons, List.not_mem_nil, or_false, HallG.own] at m ⊢
      rcases m with rfl | rfl | rfl <;> simp
    · rcases List.mem_cons.mp m with rfl | m
      · exact List.mem_append.mpr (.inl (by simp))
      · exact HallG.in_list hx m
  · intro y hy
    rcases List.mem_append.mp hy with hy | hy
    · exact .inl (List.mem_append.mpr (.inl hy))
    · obtain ⟨z, hz, hyz⟩ := List.mem_flatMap.mp hy
      obtain ⟨j, hj, ej⟩ := List.mem_iff_getElem.mp hz
      rcases hset j z (by rw [← ej]; exact List.getElem?_eq_getElem hj) with ⟨rfl, rfl⟩ | ⟨c, hz2⟩
      · rcases gr.2 y hyz with h | h
        · exact .inl (HallG.in_list hx h)
        · exact .inr h
      · exact .inl (HallG.in_list hz2 hyz)
def spNeedH (CB CD CH : Addr) : Sp := fun vs H Q _ => ∃ (g : HallG) (s : HallM) (i : Nat), vs = [.ref g.ha, .int i] ∧ HallAt CB CD CH H g s ∧ i < s.many ∧ Q .non H
def spHallStep (CB CD CH : Addr) : Sp := fun vs H Q _ => ∃ (g : HallG) (s : HallM) (i : Nat), vs = [.ref g.ha, .int i] ∧ HallAt CB CD CH H g s ∧ i < s.many ∧ StepOk s ∧
  ∀ g' H', HallAt CB CD CH H' g' (s.step i) → HGrow H g g' → Off g.list H H' → Q (.bl (s.stepped i).isSome) H'
def spWeave (K : PySem.W.Frag) (CB CD CH : Addr) : Sp := fun vs H Q _ => ∃ (g : HallG) (s : HallM) (rw : Addr) (row : List Nat), vs = [.ref g.ha, .ref rw] ∧ HallAt CB CD CH H g s ∧ H rw = some (.lst (row.map fun i : Nat => V.int (i : Int))) ∧ rw ∉ g.list ∧
  (∀ i ∈ row, i < s.many) ∧ (∀ k, k ≤ row.length → StepOk (s.weave (row.take k))) ∧ ∀ g' H', HallAt CB CD CH H' g' (s.weave row) → HGrow H g g' → Off g.list H H' → Q (.int (s.weaved row : Nat)) H'
def spStepsOf (CB CD CH : Addr) : Sp := fun vs H Q _ => ∃ (g : HallG) (s : HallM) (i : Nat), vs = [.ref g.ha, .int i] ∧ HallAt CB CD CH H g s ∧ i < s.many ∧ Q (.int (s.hand i).steps) H
def spTouches (CB CD CH : Addr) : Sp := fun vs H Q _ => ∃ (g : HallG) (s : HallM), vs = [.ref g.ha] ∧ HallAt CB CD CH H g s ∧ ∀ (p : Addr) (rs : List V), H p = none → Paired (TouchAt H) rs s.touches → Q (.ref p) (upd H p (.lst rs))
end Sd

/-! the order in the heap -/
namespace Sd
open PySem PySem.W L2
structure OrdIn (m : Nat) (recs : List Rec) (marks : List Mark) : Prop where
  len : marks.length = recs.length
  n : recs.length ≤ 200
  tf : TF m recs.length (recN recs) (markN marks)
  gm : ∀ p, p < recs.length → isGv (recN recs p).deed = true → ∃ h k, markN marks p = .gift h k
theorem HallInv.ordIn {s : HallM} {G : Nat → List Chg} (I : HallInv s G) : OrdIn s.many s.recs s.marks :=
  ⟨I.ml, by have := I.len; omega, I.tf, fun p hp hg => by
    obtain ⟨q, c, _, _, _, h⟩ := I.give_at hp hg
    exact ⟨_, _, h⟩⟩
def RecL (H : Hp) (rl : Addr) (recs : List Rec) : Prop := ∃ vs, H rl = some (.lst vs) ∧ Paired (RecAt H) vs recs
def MarkL (H : Hp) (ml : Addr) (marks : List Mark) : Prop := ∃ vs, H ml = some (.lst vs) ∧ Paired (MarkAt H) vs marks
theorem RecL.off {H H' : Hp} {rl : Addr} {recs : List Rec} (a : RecL H rl recs) (s : Same H H') : RecL H' rl recs := by
  obtain ⟨vs, h1, h2⟩ := a
  exact ⟨vs, s _ _ h1, Paired.mapM h2 fun x _ y e => e.tu (Tu.same s)⟩
theorem MarkL.off {H H' : Hp} {rl : Addr} {marks : List Mark} (a : MarkL H rl marks) (s : Same H H') : MarkL H' rl marks := by
  obtain ⟨vs, h1, h2⟩ := a
  exact ⟨vs, s _ _ h1, Paired.mapM h2 fun x _ y e => e.tu (Tu.same s)⟩
theorem RecL.at_ {H : Hp} {rl : Addr} {recs : List Rec} (a : RecL H rl recs) {p : Nat} (e : p < recs.length) : ∃ vs rp dp av, H rl = some (.lst vs) ∧ vs.length = recs.length ∧ atI vs (p : Int) = some (.ref rp) ∧
    H rp = some (.tup [.int (recN recs p).hand, .ref dp, .int (recN recs p).beg, .int (recN recs p).fin, av]) ∧ H dp = some (.tup (recN recs p).deed.vals) ∧ (recN recs p).ans.At H av := by
  obtain ⟨vs, h1, h2⟩ := a
  obtain ⟨v, hv, rp, dp, av, rfl, h3, h4, h5⟩ := Paired.get h2 (recN_at e)
  exact ⟨vs, rp, dp, av, h1, Paired.len h2, atI_nat hv, h3, h4, h5⟩
theorem MarkL.at_ {H : Hp} {ml : Addr} {marks : List Mark} (a : MarkL H ml marks) {p : Nat} (e : p < marks.length) : ∃ vs v, H ml = some (.lst vs) ∧ atI vs (p : Int) = some v ∧ MarkAt H v (markN marks p) := by
  obtain ⟨vs, h1, h2⟩ := a
  obtain ⟨v, hv, h3⟩ := Paired.get h2 (markN_at e)
  exact ⟨vs, v, h1, atI_nat hv, h3⟩
theorem RecL.len {H : Hp} {rl : Addr} {recs : List Rec} (a : RecL H rl recs) : ∃ vs, H rl = some (.lst vs) ∧ vs.length = recs.length := by
  obtain ⟨vs, h1, h2⟩ := a
  exact ⟨vs, h1, Paired.len h2⟩
/-! the dict of gifts' places -/
def gkey : Mark → List L2.Key
  | .gift h k => [Sum.inl (h : Int), Sum.inl (k : Int)]
  | _ => []
def gent (M : Nat → Mark) (p : Nat) : List L2.Key × V := (gkey (M p), .int (p : Int))
theorem gkey_inj {a b : Mark} (ha : ∃ h k, a = .gift h k) (hb : ∃ h k, b = .gift h k) (e : gkey a = gkey b) : a = b := by
  obtain ⟨h, k, rfl⟩ := ha
  obtain ⟨h', k', rfl⟩ := hb
  injection e with e1 e2
  injection e2 with e2 _
  injection e1 with e1
  injection e2 with e2
  have h1 : h = h' := by omega
  have h2 : k = k' := by omega
  rw [h1, h2]
theorem gkey_map (h k : Nat) : (gkey (.gift h k)).map kV = [V.int (h : Int), V.int (k : Int)] := rfl
theorem putK_new {kvs : List (List L2.Key × V)} {k : List L2.Key} {v : V} (h : ∀ kv ∈ kvs, kv.1 ≠ k) : putK kvs k v = kvs ++ [(k, v)] := by
  unfold putK
  rw [if_neg]
  rw [List.any_eq_true]
  rintro ⟨kv, h1, h2⟩
  exact h kv h1 (of_decide_eq_true h2)
theorem valV_in {M : Nat → Mark} : ∀ {l : List Nat} {g : Nat}, g ∈ l → (∀ x ∈ l, gkey (M x) = gkey (M g) → x = g) → valV (l.map (gent M)) (gkey (M g)) = some (.int (g : Int))
  | [], _, h, _ => nomatch h
  | x :: l, g, h, hi => by
    rw [List.map_cons]
    by_cases e : gkey (M x) = gkey (M g)
    · rw [valV_pos (p := gent M x) e, hi x List.mem_cons_self e]
      rfl
    · rw [valV_neg (p := gent M x) e]
      rcases List.mem_cons.mp h with rfl | h
      · exact absurd rfl e
      · exact valV_in h fun y hy => hi y (List.mem_cons_of_mem _ hy)
theorem dropK_in {M : Nat → Mark} {g : Nat} : ∀ {l : List Nat}, (∀ x ∈ l, gkey (M x) = gkey (M g) → x = g) → dropK (l.map (gent M)) (gkey (M g)) = (l.filter fun x => decide (x ≠ g)).map (gent M)
  | [], _ => rfl
  | x :: l, hi => by
    have ih := dropK_in (l := l) fun y hy => hi y (List.mem_cons_of_mem _ hy)
    unfold dropK at ih ⊢
    rw [List.map_cons]
    by_cases e : x = g
    · rw [List.filter_cons_of_neg (by rw [e]; simp [gent]), List.filter_cons_of_neg (by rw [e]; simp), ih]
    · have e2 : gkey (M x) ≠ gkey (M g) := fun z => e (hi x List.mem_cons_self z)
      rw [List.filter_cons_of_pos (by simp [gent, e2]), List.filter_cons_of_pos (by simp [e]), List.map_cons, ih]
section
variable {m : Nat} {recs : List Rec} {marks : List Mark}
abbrev gvs (recs : List Rec) (j : Nat) : List Nat := (List.range j).filter fun p => isGv (recN recs p).deed
theorem gvs_succ (j : Nat) : gvs recs (j + 1) = if isGv (recN recs j).deed = true then gvs recs j ++ [j] else gvs recs j := by
  unfold gvs
  rw [List.range_succ, List.filter_append]
  by_cases c : isGv (recN recs j).deed = true
  · rw [if_pos c, List.filter_cons_of_pos (p := fun p => isGv (recN recs p).deed) c]
    rfl
  · rw [if_neg c, List.filter_cons_of_neg (p := fun p => isGv (recN recs p).deed) c]
    exact List.append_nil _
theorem OrdIn.inj (O : OrdIn m recs marks) {x y : Nat} (hx : x < recs.length) (hy : y < recs.length) (gx : isGv (recN recs x).deed = true) (gy : isGv (recN recs y).deed = true) (e : gkey (markN marks x) = gkey (markN marks y)) : x = y :=
  O.tf.uniq x y hx hy gx gy (gkey_inj (O.gm x hx gx) (O.gm y hy gy) e)
theorem OrdIn.put (O : OrdIn m recs marks) {j : Nat} (hj : j < recs.length) (hg : isGv (recN recs j).deed = true) (v : V) : putK ((gvs recs j).map (gent (markN marks))) (gkey (markN marks j)) v = (gvs recs j).map (gent (markN marks)) ++ [(gkey (markN marks j), v)] := by
  refine putK_new fun kv hkv e => ?_
  obtain ⟨p, hp, rfl⟩ := List.mem_map.mp hkv
  obtain ⟨h1, h2⟩ := List.mem_filter.mp hp
  have h3 := List.mem_range.mp h1
  have := O.inj (by omega) hj h2 hg e
  omega
abbrev toldTo (recs : List Rec) (marks : List Mark) (j : Nat) : List Nat := (List.range j).filterMap (giver recs.length (recN recs) (markN marks))
theorem toldTo_succ (j : Nat) : toldTo recs marks (j + 1) = toldTo recs marks j ++ (giver recs.length (recN recs) (markN marks) j).toList := by
  unfold toldTo
  rw [List.range_succ, List.filterMap_append]
  congr 1
  all_goals (rw [List.filterMap_cons, List.filterMap_nil]; generalize giver recs.length (recN recs) (markN marks) j = o; cases o <;> rfl)
abbrev leftTo (recs : List Rec) (marks : List Mark) (j : Nat) : List Nat := (gvs recs recs.length).filter fun g => !decide (g ∈ toldTo recs marks j)
theorem told_all : toldTo recs marks recs.length = told recs.length (recN recs) (markN marks) := rfl
theorem left_all : leftTo recs marks recs.length = rest recs.length (recN recs) (markN marks) := by
  unfold rest leftTo gvs
  rw [List.filter_filter]
  refine List.filter_congr fun g _ => ?_
  rw [Bool.and_comm]
  rfl
theorem left_zero : leftTo recs marks 0 = gvs recs recs.length := by
  unfold leftTo
  exact List.filter_eq_self.mpr fun g _ => rfl
/-- a take that tells a gift finds it, and takes it out -/
theorem OrdIn.pop (O : OrdIn m recs marks) {j : Nat} (hj : j < recs.length) (ht : isTk (recN recs j).deed = true) (hm : markN marks j ≠ .non) :
    ∃ g h k, markN marks j = .gift h k ∧ giver recs.length (recN recs) (markN marks) j = some g ∧ valV ((leftTo recs marks j).map (gent (markN marks))) (gkey (markN marks j)) = some (.int (g : Int)) ∧
      dropK ((leftTo recs marks j).map (gent (markN marks))) (gkey (markN marks j)) = (leftTo recs marks (j + 1)).map (gent (markN marks)) := by
  have L := O.tf.toLF
  have hp := mem_tt.mpr ⟨hj, ht, hm⟩
  obtain ⟨e, g1, g2, g3, _, _, g6, _⟩ := gv_of L hp
  generalize gv recs.length (recN recs) (markN marks) j = g at *
  obtain ⟨h, k, hk⟩ := O.gm g g1 g2
  have hinj : ∀ x ∈ leftTo recs marks j, gkey (markN marks x) = gkey (markN marks g) → x = g := fun x hx ex => by
    obtain ⟨h1, h2⟩ := List.mem_filter.mp (List.mem_filter.mp hx).1
    exact O.inj (List.mem_range.mp h1) g1 h2 g2 ex
  have hng : g ∉ toldTo recs marks j := fun z => by
    obtain ⟨p, h1, h2⟩ := List.mem_filterMap.mp z
    have h3 := List.mem_range.mp h1
    have h4 : (isTk (recN recs p).deed && decide (markN marks p ≠ .non)) = true := by
      cases c : (isTk (recN recs p).deed && decide (markN marks p ≠ .non)) with
      | true => rfl
      | false =>
        unfold giver at h2
        rw [c] at h2
        cases h2
    rw [Bool.and_eq_true, decide_eq_true_iff] at h4
    have hp2 := gv_of L (mem_tt.mpr ⟨by omega, h4.1, h4.2⟩)
    rw [h2] at hp2
    have e2 := hp2.2.2.2.1
    rw [← Option.some.inj hp2.1] at e2
    exact g6 p h3 h4.1 (e2.symm.trans g3)
  have hin : g ∈ leftTo recs marks j := List.mem_filter.mpr ⟨List.mem_filter.mpr ⟨List.mem_range.mpr g1, g2⟩, by rw [decide_eq_false hng]; rfl⟩
  refine ⟨g, h, k, g3 ▸ hk, e, ?_, ?_⟩
  · rw [← g3]
    exact valV_in hin hinj
  · rw [← g3, dropK_in hinj]
    congr 1
    unfold leftTo
    rw [List.filter_filter]
    refine List.filter_congr fun x _ => ?_
    rw [toldTo_succ, e]
    show (decide (x ≠ g) && !decide (x ∈ toldTo recs marks j)) = !decide (x ∈ toldTo recs marks j ++ [g])
    by_cases c : x = g
    · rw [decide_eq_false (by rw [c]; simp), decide_eq_true (show x ∈ toldTo recs marks j ++ [g] by rw [c]; simp)]
      rfl
    · rw [decide_eq_true c, Bool.true_and]
      congr 1
      exact decide_eq_decide.mpr ⟨fun z => List.mem_append.mpr (.inl z), fun z => (List.mem_append.mp z).elim id fun z => absurd (List.mem_singleton.mp z) c⟩
theorem giver_none {j : Nat} (h : ¬ (isTk (recN recs j).deed = true ∧ markN marks j ≠ .non)) : giver recs.length (recN recs) (markN marks) j = none := by
  unfold giver
  rw [if_neg]
  rw [Bool.and_eq_true, decide_eq_true_iff]
  exact h
theorem left_same {j : Nat} (h : giver recs.length (recN recs) (markN marks) j = none) : leftTo recs marks (j + 1) = leftTo recs marks j ∧ toldTo recs marks (j + 1) = toldTo recs marks j := by
  have e : toldTo recs marks (j + 1) = toldTo recs marks j := by rw [toldTo_succ, h]; exact List.append_nil _
  exact ⟨by unfold leftTo; rw [e], e⟩
end
/-! keys as tuples of ints, sorted -/
def klist (k : Key) : List Int := [(k.1 : Int), (k.2.1 : Int), (k.2.2 : Int)]
theorem klist_lt (a b : Key) : listLt (klist a) (klist b) = klt a b := by
  unfold klist
  unfold listLt
  have hi : ∀ x y : Int, DatumOrd.lt x y = decide (x < y) := fun _ _ => rfl
  by_cases c1 : (a.1 : Int) = b.1
  · rw [if_pos c1]
    unfold listLt
    by_cases c2 : (a.2.1 : Int) = b.2.1
    · rw [if_pos c2]
      unfold listLt
      by_cases c3 : (a.2.2 : Int) = b.2.2
      · rw [if_pos c3]
        show false = _
        cases h : klt a b with
        | false => rfl
        | true => have := klt_iff.mp h; omega
      · rw [if_neg c3, hi]
        unfold klt
        exact decide_eq_decide.mpr (by omega)
    · rw [if_neg c2, hi]
      unfold klt
      exact decide_eq_decide.mpr (by omega)
  · rw [if_neg c1, hi]
    unfold klt
    exact decide_eq_decide.mpr (by omega)
theorem leT_trans (a b c : Addr × List Int) (h1 : leT a b = true) (h2 : leT b c = true) : leT a c = true := by
  unfold leT at *
  rw [Bool.not_eq_true'] at *
  cases h : listLt c.2 a.2 with
  | false => rfl
  | true =>
    rcases lLt_tri a.2 b.2 with e | e | e
    · rw [lLt_tr _ _ _ h e] at h2; cases h2
    · rw [e] at h; rw [h] at h2; cases h2
    · rw [e] at h1; cases h1
theorem leT_total (a b : Addr × List Int) : (leT a b || leT b a) = true := by
  unfold leT
  cases h : listLt b.2 a.2 with
  | false => rfl
  | true =>
    cases h2 : listLt a.2 b.2 with
    | false => rfl
    | true =>
      have := lLt_tr _ _ _ h h2
      rw [lLt_irr] at this
      cases this
def KeyAt (H : Hp) (b : Addr) (k : Key) : Prop := H b = some (.tup [.int (k.1 : Int), .int (k.2.1 : Int), .int (k.2.2 : Int)])
theorem keys_pairs {H : Hp} {bs : List Addr} {ks : List Key} (p : Paired (KeyAt H) bs ks) : ∃ bt : List (Addr × Key), bt.map (fun b => V.ref b.1) = bs.map V.ref ∧ bt.map (·.2) = ks ∧ ∀ b ∈ bt, KeyAt H b.1 b.2 := by
  induction p with
  | nil => exact ⟨[], rfl, rfl, fun _ h => nomatch h⟩
  | @cons a b l1 l2 h t ih =>
    obtain ⟨bt, h1, h2, h3⟩ := ih
    refine ⟨(a, b) :: bt, by rw [List.map_cons, List.map_cons, h1], by rw [List.map_cons, h2], fun x hx => ?_⟩
    rcases List.mem_cons.mp hx with rfl | hx
    · exact h
    · exact h3 x hx
theorem keys_sorted {H : Hp} {bs : List Addr} {ks : List Key} (p : Paired (KeyAt H) bs ks) : ∃ bt : List (Addr × List Int), bt.map (fun b => V.ref b.1) = bs.map V.ref ∧ (∀ b ∈ bt, H b.1 = some (.tup (b.2.map V.int))) ∧ (∀ b ∈ bt, b.2 ≠ []) ∧ bt.length = ks.length ∧
    ∃ ks' : List Key, ks'.Perm ks ∧ ks'.Pairwise (fun a b => klt b a = false) ∧ (bt.mergeSort leT).map (·.2) = ks'.map klist := by
  obtain ⟨bt, h1, h2, h3⟩ := keys_pairs p
  refine ⟨bt.map fun b => (b.1, klist b.2), by rw [List.map_map]; exact h1, fun b hb => ?_, fun b hb => ?_, by rw [List.length_map, ← h2, List.length_map], ?_⟩
  · obtain ⟨x, hx, rfl⟩ := List.mem_map.mp hb
    exact h3 x hx
  · obtain ⟨x, hx, rfl⟩ := List.mem_map.mp hb
    exact fun z => nomatch z
  · have hs := List.pairwise_mergeSort leT_trans leT_total (bt.map fun b => (b.1, klist b.2))
    have hp := List.mergeSort_perm (bt.map fun b => (b.1, klist b.2)) leT
    generalize (bt.map fun b => (b.1, klist b.2)).mergeSort leT = st at hs hp
    have hk : ∀ b ∈ st, ∃ k : Key, b.2 = klist k := fun b hb => by
      obtain ⟨x, _, rfl⟩ := List.mem_map.mp (hp.mem_iff.mp hb)
      exact ⟨_, rfl⟩
    let dk : List Int → Key := fun l => ((l.getD 0 0).toNat, (l.getD 1 0).toNat, (l.getD 2 0).toNat)
    have hd : ∀ k : Key, dk (klist k) = k := fun k => rfl
    refine ⟨st.map fun b => dk b.2, ?_, ?_, ?_⟩
    · have := hp.map fun b => dk b.2
      rw [List.map_map] at this
      rw [← h2]
      exact this
    · rw [List.pairwise_map]
      refine List.Pairwise.imp_of_mem (fun {a b} ha hb h => ?_) hs
      obtain ⟨k, ek⟩ := hk a ha
      obtain ⟨k', ek'⟩ := hk b hb
      unfold leT at h
      rw [Bool.not_eq_true', ek, ek', klist_lt] at h
      rw [ek, ek', hd, hd]
      exact h
    · rw [List.map_map]
      refine List.map_congr_left fun b hb => ?_
      obtain ⟨k, ek⟩ := hk b hb
      show b.2 = klist (dk b.2)
      rw [ek, hd]
section
variable {m : Nat} {recs : List Rec} {marks : List Mark}
abbrev oths (recs : List Rec) (marks : List Mark) (j : Nat) : List Key := ((List.range j).filter fun p => decide ((recN recs p).deed.thing ≠ 4)).map (otherKey (recN recs) (markN marks))
theorem oths_succ (j : Nat) : oths recs marks (j + 1) = if (recN recs j).deed.thing ≠ 4 then oths recs marks j ++ [otherKey (recN recs) (markN marks) j] else oths recs marks j := by
  unfold oths
  rw [List.range_succ, List.filter_append, List.map_append]
  by_cases c : (recN recs j).deed.thing ≠ 4
  · rw [if_pos c, List.filter_cons_of_pos (p := fun p => decide ((recN recs p).deed.thing ≠ 4)) (decide_eq_true c)]
    rfl
  · rw [if_neg c, List.filter_cons_of_neg (p := fun p => decide ((recN recs p).deed.thing ≠ 4)) (by rw [decide_eq_false c]; exact Bool.false_ne_true)]
    exact List.append_nil _
theorem oths_len (j : Nat) : (oths recs marks j).length ≤ j := by
  unfold oths
  rw [List.length_map]
  exact Nat.le_trans (List.length_filter_le _ _) (by rw [List.length_range]; exact Nat.le_refl _)
theorem lineKeys_len (O : OrdIn m recs marks) : (takeKeys recs.length (recN recs) (markN marks) ++ (sfx (fun p => (recN recs p).fin) 0 (seqM recs.length (recN recs) (markN marks))).reverse).length ≤ 200 := by
  have h1 := (keys_perm O.tf.toLF).length_eq
  have h2 := O.n
  unfold keysM at h1
  rw [List.length_map, List.length_append, List.length_range] at h1
  omega
theorem chg_succ (t j : Nat) : changes (recN recs) t (j + 1) = if isChg t (recN recs j) = true then changes (recN recs) t j ++ [(recN recs j).fin] else changes (recN recs) t j := by
  unfold changes
  rw [List.range_succ, List.filter_append, List.map_append]
  by_cases c : isChg t (recN recs j) = true
  · rw [if_pos c, List.filter_cons_of_pos (p := fun q => isChg t (recN recs q)) c]
    rfl
  · rw [if_neg c, List.filter_cons_of_neg (p := fun q => isChg t (recN recs q)) c]
    exact List.append_nil _
theorem changes_len {t p q c : Nat} (hp : p ≤ recs.length) (hc : (chs recs.length (recN recs) t)[q]? = some c) (h : c < p) : q < (changes (recN recs) t p).length := by
  unfold chs at hc
  unfold changes
  rw [List.length_map]
  rw [range_split hp, List.filter_append] at hc
  refine Nat.lt_of_not_le fun k => ?_
  rw [List.getElem?_append_right k] at hc
  have := (List.mem_filter.mp (List.mem_of_getElem? hc)).1
  obtain ⟨x, _, rfl⟩ := List.mem_map.mp this
  omega
/-- what a telling deed's mark wants of the changes so far -/
theorem OrdIn.mom (O : OrdIn m recs marks) {j : Nat} (hj : j < recs.length) (ht : (recN recs j).deed.tells = true) : ∃ K : Nat, markN marks j = .mom (K : Int) ∧ K ≤ (changes (recN recs) (recN recs j).deed.thing j).length ∧
    moment (recN recs) (markN marks) j = if K = 0 then (recN recs j).beg else if (changes (recN recs) (recN recs j).deed.thing j).getD (K - 1) 0 > (recN recs j).beg then (changes (recN recs) (recN recs j).deed.thing j).getD (K - 1) 0 else (recN recs j).beg := by
  obtain ⟨K, h1, h2, _, h4, _⟩ := O.tf.tells j hj ht
  refine ⟨K, h2, ?_, ?_⟩
  · cases K with
    | zero => exact Nat.zero_le _
    | succ K =>
      have e := List.getElem?_eq_getElem (show K < (chs recs.length (recN recs) (recN recs j).deed.thing).length from h1)
      have h5 := h4 K _ e (Nat.lt_succ_self _)
      have hcn := (mem_chs.mp (List.mem_of_getElem? e)).1
      refine changes_len (Nat.le_of_lt hj) e (Nat.lt_of_not_le fun z => ?_)
      rcases Nat.eq_or_lt_of_le z with z | z
      · rw [← z] at h5
        exact absurd h5 (Nat.lt_irrefl _)
      · have := O.tf.ends _ _ z hcn
        omega
  · unfold moment
    rw [h2]
    dsimp only
    by_cases c : K = 0
    · rw [if_pos c, if_pos (by omega)]
    · rw [if_neg c, if_neg (by omega), Int.toNat_natCast]
end
def spGives : Sp := fun vs H Q _ => ∃ (rl ml : Addr) (recs : List Rec) (marks : List Mark) (m : Nat), vs = [.ref rl, .ref ml] ∧ RecL H rl recs ∧ MarkL H ml marks ∧ OrdIn m recs marks ∧
  ∀ p H', H p = none → Same H H' → H' p = some (.lst ((seqM recs.length (recN recs) (markN marks)).map fun i : Nat => V.int (i : Int))) → Q (.ref p) H'
def KeysAt (H : Hp) (kl : Addr) (ks : List Key) : Prop := ∃ bs : List Addr, H kl = some (.lst (bs.map V.ref)) ∧ Paired (KeyAt H) bs ks
def lineKeys (recs : List Rec) (marks : List Mark) : List Key := takeKeys recs.length (recN recs) (markN marks) ++ (sfx (fun p => (recN recs p).fin) 0 (seqM recs.length (recN recs) (markN marks))).reverse
def spLineKeys : Sp := fun vs H Q _ => ∃ (rl ml : Addr) (recs : List Rec) (marks : List Mark) (m : Nat), vs = [.ref rl, .ref ml] ∧ RecL H rl recs ∧ MarkL H ml marks ∧ OrdIn m recs marks ∧
  ∀ p H', H p = none → Same H H' → KeysAt H' p (lineKeys recs marks) → Q (.ref p) H'
def spMoment : Sp := fun vs H Q _ => ∃ (b K : Nat) (cl : Addr) (cs : List Nat), vs = [.int (b : Int), .ref cl, .int (K : Int)] ∧ H cl = some (.lst (cs.map fun i : Nat => V.int (i : Int))) ∧ K ≤ cs.length ∧
  Q (.int ((if K = 0 then b else if cs.getD (K - 1) 0 > b then cs.getD (K - 1) 0 else b : Nat) : Int)) H
def spTold : Sp := fun vs H Q _ => ∃ (rl ml : Addr) (recs : List Rec) (marks : List Mark) (m : Nat), vs = [.ref rl, .ref ml] ∧ RecL H rl recs ∧ MarkL H ml marks ∧ OrdIn m recs marks ∧
  ∀ p H' (ks : List Key), H p = none → Same H H' → ks.Perm (keysM recs.length (recN recs) (markN marks)) → ks.Pairwise (fun a b => klt b a = false) → H' p = some (.lst (ks.map fun k => V.int ((pk k : Nat) : Int))) → Q (.ref p) H'
/-- the one row that an order comes from -/
def IsOrd (s : HallM) (order : List Int) : Prop := ∃ ks : List Key, ks.Perm s.keys ∧ ks.Pairwise (fun a b => klt b a = false) ∧ order = ks.map fun k => ((pk k : Nat) : Int)
theorem IsOrd.same {s : HallM} {G : Nat → List Chg} (I : HallInv s G) {a b : List Int} (ha : IsOrd s a) (hb : IsOrd s b) : a = b := by
  obtain ⟨k1, p1, s1, e1⟩ := ha
  obtain ⟨k2, p2, s2, e2⟩ := hb
  have L : LF s.recs.length (recN s.recs) (markN s.marks) := I.tf.toLF
  rw [e1, e2, sorted_same (p1.trans p2.symm) (Sorted.of L p1 s1).lt (Sorted.of L p2 s2).lt]
def spOrder (CB CD CH : Addr) : Sp := fun vs H Q _ => ∃ (g : HallG) (s : HallM) (G : Nat → List Chg), vs = [.ref g.ha] ∧ HallAt CB CD CH H g s ∧ HallInv s G ∧
  ∀ p H' (order : List Int), H p = none → Same H H' → keepsM s.recs order s.many = true → IsOrd s order → H' p = some (.lst (order.map V.int)) → Q (.ref p) H'
end Sd

/-! judging in the heap -/
namespace Sd
open PySem L2 PySem.W
def ansD : Ans → PyData
  | .non => .none
  | .int n => .int n
  | .view cs => .tuple (cs.map PyData.int)
theorem Ans.At.dp {K : PySem.W.Frag} {H : Hp} {v : V} {a : Ans} (h : a.At H v) : Dp K H v (ansD a) := by
  cases a with
  | non => cases (show v = .non from h); exact .non
  | int n => cases (show v = .int n from h); exact .int n
  | view cs =>
    obtain ⟨p, rfl, hp⟩ := h
    exact .tup (SqT.of hp) (dInts_all cs)
theorem ansD_shaped (a : Ans) : SeqAt.shaped (ansD a) = true := by
  cases a with
  | non => rfl
  | int n => rfl
  | view cs =>
    have h1 : PyData.canLay0 (.tuple (cs.map PyData.int)) = true := lay_ints cs
    have h2 : PyData.depth (.tuple (cs.map PyData.int)) = PyData.depthAll (cs.map PyData.int) + 1 := rfl
    rw [depth_ints] at h2
    show SeqAt.shaped (.tuple (cs.map PyData.int)) = true
    unfold SeqAt.shaped
    rw [h1, h2]
    rfl
theorem eqvAll_ints2 : ∀ a b : List Int, PyData.eqvAll (a.map PyData.int) (b.map PyData.int) = decide (a = b)
  | [], [] => rfl
  | [], _ :: _ => rfl
  | _ :: _, [] => rfl
  | x :: xs, y :: ys => by
    show ((x == y) && PyData.eqvAll (xs.map PyData.int) (ys.map PyData.int)) = _
    rw [eqvAll_ints2 xs ys]
    by_cases h : x = y
    · subst h
      rw [beq_self_eq_true, Bool.true_and]
      exact decide_eq_decide.mpr ⟨fun e => by rw [e], fun e => (List.cons.inj e).2⟩
    · rw [beq_eq_false_iff_ne.mpr h, Bool.false_and]
      exact (decide_eq_false fun e => h (List.cons.inj e).1).symm
theorem ansD_eqv (a b : Ans) : PyData.eqv (ansD a) (ansD b) = decide (a = b) := by
  cases a with
  | non => cases b <;> rfl
  | int n =>
    cases b with
    | int k =>
      show (n == k) = _
      by_cases h : n = k
      · subst h
        rw [beq_self_eq_true]
        exact (decide_eq_true rfl).symm
      · rw [beq_eq_false_iff_ne.mpr h]
        exact (decide_eq_false fun e => h (by injection e)).symm
    | _ => rfl
  | view cs =>
    cases b with
    | view ds =>
      show PyData.eqvAll _ _ = _
      rw [eqvAll_ints2]
      exact decide_eq_decide.mpr ⟨fun e => by rw [e], fun e => by injection e⟩
    | _ => rfl
/-- records handed in -/
structure RecsAt (H : Hp) (rl : Addr) (recs : List Rec) (m : Nat) : Prop where
  ls : ∃ vs, H rl = some (.lst vs) ∧ Paired (RecAt H) vs recs
  ok : ∀ r ∈ recs, RecOk m r
  len : recs.length ≤ 9000
theorem RecsAt.off {H H' : Hp} {rl : Addr} {recs : List Rec} {m : Nat} {F : List Addr} (a : RecsAt H rl recs m) (o : Off F H H') (n : rl ∉ F) (t : Tu H H') : RecsAt H' rl recs m := by
  obtain ⟨vs, h1, h2⟩ := a.ls
  exact ⟨⟨vs, o _ _ n h1, Paired.mapM h2 fun x _ y e => e.tu t⟩, a.ok, a.len⟩
def spKeepsM : Sp := fun vs H Q _ => ∃ (rl ol : Addr) (recs : List Rec) (order : List Int) (m : Nat), vs = [.ref rl, .ref ol, .int m] ∧ RecsAt H rl recs m ∧ H ol = some (.lst (order.map V.int)) ∧ 1 ≤ m ∧ m ≤ 100 ∧ ∀ H', Same H H' → Q (.bl (keepsM recs order m)) H'
theorem L5.At.noTup {H : Hp} {d a1 a2 a3 a4 : Addr} {s : L5} (h : s.At H d a1 a2 a3 a4) : ∀ x ∈ [d, a1, a2, a3, a4], ∀ xs, H x ≠ some (.tup xs) := by
  intro x hx xs e
  simp only [List.mem_cons, List.not_mem_nil, or_false] at hx
  rcases hx with rfl | rfl | rfl | rfl | rfl
  · rw [h.d] at e; cases e
  · rw [h.c1] at e; cases e
  · rw [h.c2] at e; cases e
  · rw [h.c3] at e; cases e
  · rw [h.c4] at e; cases e
theorem RecsAt.at_ {H : Hp} {rl : Addr} {recs : List Rec} {m : Nat} (a : RecsAt H rl recs m) {p : Nat} {r : Rec} (e : recs[p]? = some r) : ∃ vs rp dp av, H rl = some (.lst vs) ∧ atI vs (p : Int) = some (.ref rp) ∧ H rp = some (.tup [.int r.hand, .ref dp, .int r.beg, .int r.fin, av]) ∧ DeedAt H dp r.deed ∧ r.ans.At H av := by
  obtain ⟨vs, h1, h2⟩ := a.ls
  obtain ⟨v, hv, rp, dp, av, rfl, h3, h4, h5⟩ := Paired.get h2 e
  exact ⟨vs, rp, dp, av, h1, atI_nat hv, h3, h4, h5⟩
end Sd
namespace Sd
open PySem L2
def spHistory (K : PySem.W.Frag) : Sp := fun vs H Q _ => ∃ (d a wl : Addr) (ns : List Int) (ws : List Str) (m most : Nat), vs = [.ref d, .int m, .ref wl, .int most] ∧ Dice H d a ∧ SqL K H a (ns.map V.int) ∧
  H wl = some (.lst (ws.map V.str)) ∧ wl ≠ d ∧ (∀ w ∈ ws, w ∈ words10) ∧ 0 < ws.length ∧ ws.length ≤ 100 ∧ 1 ≤ m ∧ m ≤ 100 ∧ most ≤ 1000 ∧
  ∀ fl recs H', RecsAt H' fl recs m → recs.length ≤ most → H fl = none → Dice H' d a → SqL K H' a (ns.map V.int) → But d H H' → Q (.ref fl) H'
theorem RecsAt.tracked {H : Hp} {rl : Addr} {recs : List Rec} {m : Nat} (a : RecsAt H rl recs m) : ∃ vs, H rl = some (.lst vs) := by
  obtain ⟨vs, h, _⟩ := a.ls
  exact ⟨vs, h⟩
theorem Dice.tu {H H' : Hp} {d a : Addr} (h : Dice H d a) (b : But d H H') : Tu H H' := fun x xs e => b _ _ (fun z => by
  obtain ⟨_, _, _, hd⟩ := h
  rw [z, hd] at e
  cases e) e
theorem Off.but' {x : Addr} {H H' : Hp} (h : But x H H') : Off [x] H H' := fun c o n e => h c o (fun z => n (by rw [z]; exact List.mem_singleton.mpr rfl)) e
theorem eqBut {d : Addr} {H H' : Hp} (o : ∀ b, b ≠ d → H' b = H b) : But d H H' := fun c u n e => by rw [o c n]; exact e
end Sd

/-! records as data; an order told otherwise -/
namespace Sd
open PySem L2
def Deed.data : Deed → List PyData
  | set n => [.str "set", .int n] | add n => [.str "add", .int n] | rais n => [.str "raise", .int n] | give n => [.str "give", .int n]
  | one => [.str "one"] | count => [.str "count"] | look => [.str "look"] | sum => [.str "sum"] | top => [.str "top"] | take => [.str "take"]
theorem Deed.dpAll {K : PySem.W.Frag} {H : Hp} : ∀ d : Deed, DpAll K H d.vals d.data
  | .set _ | .add _ | .rais _ | .give _ => .cons (.str _) (.cons (.int _) .nil)
  | .one | .count | .look | .sum | .top | .take => .cons (.str _) .nil
theorem Deed.lay : ∀ d : Deed, PyData.canLayAll0 d.data = true := by
  intro d
  cases d <;> (simp only [Deed.data, PyData.canLayAll0, PyData.canLay0]; decide +kernel)
theorem Deed.depth : ∀ d : Deed, PyData.depthAll d.data = 0
  | .set _ | .add _ | .rais _ | .give _ | .one | .count | .look | .sum | .top | .take => rfl
def recD (r : Rec) : PyData := .tuple [.int r.hand, .tuple r.deed.data, .int r.beg, .int r.fin, ansD r.ans]
theorem RecAt.dp {K : PySem.W.Frag} {H : Hp} {v : V} {r : Rec} (h : RecAt H v r) : Dp K H v (recD r) := by
  obtain ⟨p, dp, av, rfl, hp, h1, h2⟩ := h
  exact .tup (SqT.of hp) (.cons (.int _) (.cons (.tup (SqT.of h1) r.deed.dpAll) (.cons (.int _) (.cons (.int _) (.cons h2.dp .nil)))))
theorem ansD_lay (a : Ans) : PyData.canLay0 (ansD a) = true := by
  cases a with
  | non => rfl
  | int n => rfl
  | view cs => exact lay_ints cs
theorem ansD_depth (a : Ans) : PyData.depth (ansD a) ≤ 1 := by
  cases a with
  | non => exact Nat.zero_le _
  | int n => exact Nat.zero_le _
  | view cs =>
    have h2 : PyData.depth (.tuple (cs.map PyData.int)) = PyData.depthAll (cs.map PyData.int) + 1 := rfl
    rw [depth_ints] at h2
    exact Nat.le_of_eq h2
theorem recD_lay (r : Rec) : PyData.canLay0 (recD r) = true := by
  show (true && (PyData.canLayAll0 r.deed.data && (true && (true && (PyData.canLay0 (ansD r.ans) && true))))) = true
  rw [Deed.lay, ansD_lay]
  rfl
theorem recD_depth (r : Rec) : PyData.depth (recD r) ≤ 2 := by
  have h : PyData.depth (recD r) = max 0 (max (PyData.depthAll r.deed.data + 1) (max 0 (max 0 (max (PyData.depth (ansD r.ans)) 0)))) + 1 := rfl
  rw [Deed.depth] at h
  have := ansD_depth r.ans
  omega
def recsD (recs : List Rec) : PyData := .list (recs.map recD)
theorem lay_recs : ∀ recs : List Rec, PyData.canLayAll0 (recs.map recD) = true
  | [] => rfl
  | r :: rs => by
    show (PyData.canLay0 (recD r) && PyData.canLayAll0 (rs.map recD)) = true
    rw [recD_lay, lay_recs rs]
    rfl
theorem depth_recs : ∀ recs : List Rec, PyData.depthAll (recs.map recD) ≤ 2
  | [] => Nat.zero_le _
  | r :: rs => by
    have h : PyData.depthAll ((r :: rs).map recD) = max (PyData.depth (recD r)) (PyData.depthAll (rs.map recD)) := rfl
    have := recD_depth r
    have := depth_recs rs
    omega
theorem dp_recs {K : PySem.W.Frag} {H : Hp} : ∀ {vs : List V} {recs : List Rec}, Paired (RecAt H) vs recs → DpAll K H vs (recs.map recD)
  | _, _, .nil => .nil
  | _, _, .cons h hs => .cons h.dp (dp_recs hs)
theorem recsD_shaped (recs : List Rec) : SeqAt.shaped (recsD recs) = true := by
  have h1 : PyData.canLay0 (recsD recs) = true := lay_recs recs
  have h2 : PyData.depth (recsD recs) = PyData.depthAll (recs.map recD) + 1 := rfl
  have := depth_recs recs
  unfold SeqAt.shaped
  rw [h1, Bool.true_and]
  exact decide_eq_true (by omega)
theorem recsD_nil (recs : List Rec) : PyData.eqv (recsD recs) (.list []) = decide (recs = []) := by
  cases recs with
  | nil => rfl
  | cons r rs => rfl
theorem dInts_nil (ns : List Int) : PyData.eqv (dInts ns) (.list []) = decide (ns = []) := by
  cases ns with
  | nil => rfl
  | cons r rs => rfl
def handD (recs : List Rec) (order : List Int) : PyData := .list [recsD recs, dInts order]
theorem handD_lay (recs : List Rec) (order : List Int) : PyData.canLay0 (handD recs order) = true := by
  show (PyData.canLayAll0 (recs.map recD) && (PyData.canLayAll0 (order.map PyData.int) && true)) = true
  rw [lay_recs, lay_ints]
  rfl
theorem handD_shaped (recs : List Rec) (order : List Int) : SeqAt.shaped (handD recs order) = true := by
  have h2 : PyData.depth (handD recs order) = max (PyData.depthAll (recs.map recD) + 1) (max (PyData.depthAll (order.map PyData.int) + 1) 0) + 1 := rfl
  have := depth_recs recs
  rw [depth_ints] at h2
  unfold SeqAt.shaped
  rw [handD_lay, Bool.true_and]
  exact decide_eq_true (by omega)
def spSpoiled (K : PySem.W.Frag) : Sp := fun vs H Q _ => ∃ (d a ol : Addr) (ns order : List Int) (H0 : Hp), vs = [.ref d, .ref ol] ∧ Dice H d a ∧ SqL K H a (ns.map V.int) ∧ SqL K H0 a (ns.map V.int) ∧ H0 ol = none ∧
  H ol = some (.lst (order.map V.int)) ∧ ol ≠ d ∧ order.length ≤ 100 ∧
  ∀ (q : Addr) (order' : List Int) H', H' q = some (.lst (order'.map V.int)) → Off [d, ol] H H' → Tu H H' → Q (.ref q) H'
theorem Tu.but {H H' : Hp} {d a : Addr} (h : Dice H d a) (b : But d H H') : Tu H H' := h.tu b
theorem ints_set {order : List Int} {j : Nat} {x : Int} : (order.map V.int).set j (.int x) = (order.set j x).map V.int := (List.map_set ..).symm
theorem Paired.setAt {A B : Type} {R : A → B → Prop} : ∀ {xs : List A} {ys : List B} (j : Nat) {x : A} {y : B}, Paired R xs ys → R x y → Paired R (xs.set j x) (ys.set j y)
  | _, _, _, _, _, .nil, _ => .nil
  | _, _, 0, _, _, .cons _ hs, h => .cons h hs
  | _, _, j + 1, _, _, .cons h1 hs, h => .cons h1 (Paired.setAt j hs h)
theorem RecsAt.set {H : Hp} {fl : Addr} {recs : List Rec} {m : Nat} {j : Nat} {r : Rec} {x : V} {vs : List V} (R : RecsAt H fl recs m) (hv : H fl = some (.lst vs)) (hr : RecAt H x r) (ok : RecOk m r) :
    RecsAt (upd H fl (.lst (vs.set j x))) fl (recs.set j r) m := by
  obtain ⟨vs', h1, h2⟩ := R.ls
  rw [hv] at h1
  cases h1
  have tu : Tu H (upd H fl (.lst (vs.set j x))) := Tu.upd fun xs e => by rw [hv] at e; cases e
  refine ⟨⟨_, upd_same, Paired.setAt j (Paired.mapM h2 fun y _ z e => e.tu tu) (hr.tu tu)⟩, fun y hy => ?_, by rw [List.length_set]; exact R.len⟩
  rcases List.mem_or_eq_of_mem_set hy with hy | rfl
  · exact R.ok y hy
  · exact ok
theorem flat_one {x : V} : ∀ m : Nat, (List.replicate m [x]).flatten = List.replicate m x
  | 0 => rfl
  | m + 1 => by rw [List.replicate_succ, List.replicate_succ, List.flatten_cons, flat_one m]; rfl
theorem rep_r {K : PySem.W.Frag} {H : Hp} {t : Addr} {x : V} {m : Nat} {Q : VK} (ht : H t = some (.tup [x])) (h1 : 1 ≤ m) (h2 : m ≤ 1000) (q : ∀ u H', Same H H' → H' u = some (.tup (List.replicate m x)) → Q (.ref u) H') : rRepT1 K (.ref t) (.int m) H Q := by
  refine ⟨t, m, [x], rfl, rfl, SqT.of ht, by simp, by omega, by omega, (by show 1 ≤ 1000; decide), fun e => q t H (Same.refl H) ?_, fun _ p hp => q p _ (Same.new hp) ?_⟩
  · have e : m = 1 := by omega
    rw [e]
    exact ht
  · rw [upd_same, Int.toNat_natCast, flat_one]
    
end Sd

/-! the laws' own words: rows of hands, a hall of drawn plans, the order tried -/
namespace Sd
open PySem L2
theorem DrawnP.good {H0 H : Hp} {pl : Addr} {ls : List Addr} {pss : List (List Addr)} {plans : List (List Deed)} {most : Nat} (a : DrawnP H0 H pl ls pss plans most) (hm : most ≤ 40) (i : Nat) (ps : List Addr) (hi : pss[i]? = some ps) : GoodPlan H i ps := by
  obtain ⟨plan, hp, hP⟩ := Paired.get2 a.hps hi
  have hmem := List.mem_of_getElem? hp
  refine ⟨?_, fun p hpp => ?_⟩
  · rw [Paired.len hP]
    exact Nat.le_trans (a.short plan hmem) hm
  · obtain ⟨j, hj, e⟩ := List.mem_iff_getElem.mp hpp
    obtain ⟨d, hd, hD⟩ := Paired.get2 hP (show ps[j]? = some p by rw [List.getElem?_eq_getElem hj, e])
    have hdm := List.mem_of_getElem? hd
    exact ⟨d, hD, a.ok plan hmem d hdm, fun z => by rw [a.take i plan hp d hdm z]; rfl⟩
theorem GoodPlan.tu {H H' : Hp} {h : Int} {ps : List Addr} (g : GoodPlan H h ps) (t : Tu H H') : GoodPlan H' h ps := ⟨g.1, fun p hp => by
  obtain ⟨d, e, r⟩ := g.2 p hp
  exact ⟨d, t _ _ e, r⟩⟩
theorem DrawnP.plansOk {H0 H : Hp} {pl : Addr} {ls : List Addr} {pss : List (List Addr)} {plans : List (List Deed)} {most : Nat} (a : DrawnP H0 H pl ls pss plans most) (hm : most ≤ 40) (h1 : 1 ≤ plans.length) (h4 : plans.length ≤ 4) : PlansOk plans := by
  have get : ∀ i, plans.getD i [] = [] ∨ plans[i]? = some (plans.getD i []) := fun i => by
    rw [List.getD_eq_getElem?_getD]
    cases plans[i]? with
    | none => exact .inl rfl
    | some p => exact .inr rfl
  refine ⟨h1, h4, fun i d hd => ?_, fun i => ?_⟩
  · rcases get i with e | e
    · rw [e] at hd
      cases hd
    · exact ⟨a.ok _ (List.mem_of_getElem? e) d hd, a.take i _ e d hd⟩
  · rcases get i with e | e
    · rw [e]
      exact Nat.zero_le _
    · exact Nat.le_trans (a.short _ (List.mem_of_getElem? e)) hm
/-- a hall is made of drawn plans -/
theorem made_hall {CB CD CH NH ND : Addr} {H0 H : Hp} {pl : Addr} {ls : List Addr} {pss : List (List Addr)} {plans : List (List Deed)} {most : Nat} {x dx : Addr} {Q : VK} {E : XK} (R : DrawnP H0 H pl ls pss plans most) (h1 : 1 ≤ plans.length) (h4 : plans.length ≤ 4) (hm : most ≤ 40)
    (nx : H x = none) (ndx : H dx = none) (q : ∀ g H', g.ha = x → (∀ y ∈ g.list, H y = none) → Same H H' → HallAt CB CD CH H' g (HallM.new plans) → Q .non H') :
    spHallInit CB CD CH NH ND [.ref x, .ref pl] (upd (upd H dx (.own x)) x (.ins CH dx [])) Q E := by
  have lpp := Paired.len R.hps
  have s0 : ∀ {y : Addr} {o : HO}, H y = some o → upd (upd H dx (.own x)) x (.ins CH dx []) y = some o := fun e => by
    rw [upd_ne (ne_of_none e nx), upd_ne (ne_of_none e ndx)]
    exact e
  have t0 : Tu H (upd (upd H dx (.own x)) x (.ins CH dx [])) := fun y xs e => s0 e
  refine ⟨x, dx, pl, ls, pss, rfl, upd_same, ⟨s0 R.hpl, Paired.mapM R.hls fun y _ z e => s0 e⟩, by omega, fun ps hps => ?_, .inl ⟨plans, by omega, by omega, fun i ps hi => (R.good hm i ps hi).tu t0, Paired.mapM R.hps fun y _ z e => e.tu t0, fun g H' gh gf gb HA => ?_⟩⟩
  · obtain ⟨i, hi, e⟩ := List.mem_iff_getElem.mp hps
    have := (R.good hm i ps (by rw [List.getElem?_eq_getElem hi, e])).1
    omega
  · refine q g H' gh (fun y hy => ?_) (made_same nx ndx gb) HA
    by_cases c : y = x
    · rw [c]
      exact nx
    · exact made_free nx ndx (gf y hy c)
/-- a row of hands being drawn -/
structure WvAt (K : PySem.W.Frag) (H0 H : Hp) (d a p : Addr) (ns : List Int) (row : List Nat) (m : Nat) : Prop where
  dice : Dice H d a
  seq : SqL K H a (ns.map V.int)
  but : But d H0 H
  lst : H p = some (.lst (row.map fun i : Nat => V.int (i : Int)))
  ok : ∀ i ∈ row, i < m
  seq0 : SqL K H0 a (ns.map V.int)
  free : H0 p = none
  ne : p ≠ d
theorem WvAt.off {K : PySem.W.Frag} {H0 H H' : Hp} {d a p : Addr} {ns : List Int} {row : List Nat} {m : Nat} (w : WvAt K H0 H d a p ns row m) (D : Dice H' d a) (o : ∀ b, b ≠ d → H' b = H b) : WvAt K H0 H' d a p ns row m :=
  have b : But d H H' := fun c u n e => by rw [o c n]; exact e
  ⟨D, w.dice.seq b w.seq, w.but.trans b, b _ _ w.ne w.lst, w.ok, w.seq0, w.free, w.ne⟩
theorem WvAt.same {K : PySem.W.Frag} {H0 H H' : Hp} {d a p : Addr} {ns : List Int} {row : List Nat} {m : Nat} (w : WvAt K H0 H d a p ns row m) (s : Same H H') : WvAt K H0 H' d a p ns row m :=
  ⟨w.dice.same s, s.seq w.seq, w.but.trans (Same.but s), s _ _ w.lst, w.ok, w.seq0, w.free, w.ne⟩
theorem WvAt.push {K : PySem.W.Frag} {H0 H : Hp} {d a p : Addr} {ns : List Int} {row : List Nat} {m i : Nat} (w : WvAt K H0 H d a p ns row m) (hi : i < m) : WvAt K H0 (upd H p (.lst ((row.map fun i : Nat => V.int (i : Int)) ++ [V.int (i : Int)]))) d a p ns (row ++ [i]) m := by
  refine ⟨w.dice.but But.upd w.ne.symm, SqL.other w.seq0 w.free w.seq But.upd, fun b u n e => ?_, by rw [upd_same, List.map_append]; rfl, fun j hj => ?_, w.seq0, w.free, w.ne⟩
  · rw [upd_ne (ne_of_none e w.free)]
    exact w.but b u n e
  · rcases List.mem_append.mp hj with hj | hj
    · exact w.ok j hj
    · rw [List.mem_singleton.mp hj]
      exact hi
def spLWeave (K : PySem.W.Frag) : Sp := fun vs H Q _ => ∃ (d a : Addr) (ns : List Int) (m : Nat) (n : Int), vs = [.ref d, .int m, .int n] ∧ Dice H d a ∧ SqL K H a (ns.map V.int) ∧ 1 ≤ m ∧ m ≤ 4 ∧ 0 ≤ n ∧ n ≤ 100000 ∧
  ∀ (p : Addr) (row : List Nat) (H' : Hp), H p = none → H' p = some (.lst (row.map fun i : Nat => V.int (i : Int))) → (∀ i ∈ row, i < m) → (row.length : Int) = n → Dice H' d a → SqL K H' a (ns.map V.int) → But d H H' → Q (.ref p) H'
/-- a hall's records, as judging wants them -/
theorem Fine.recsOk {s : HallM} (f : Fine s) : (∀ r ∈ s.recs, RecOk s.many r) ∧ s.recs.length ≤ 160 ∧ 1 ≤ s.many ∧ s.many ≤ 4 := by
  obtain ⟨G, I⟩ := f
  exact ⟨fun r hr => ⟨(I.rok r hr).1, (I.plans _ _ (I.rok r hr).2).1⟩, I.len, I.m1, I.m4⟩
def spIsOrder (CB CD CH : Addr) : Sp := fun vs H Q _ => ∃ (g : HallG) (s : HallM), vs = [.ref g.ha, .int (s.many : Nat)] ∧ HallAt CB CD CH H g s ∧ Fine s ∧ ∀ H', Same H H' → Q (.bl true) H'
end Sd
namespace Sd
open PySem L2
theorem SqL.off {K : PySem.W.Frag} {H0 H H' : Hp} {a : Addr} {xs : List V} {F : List Addr} (h0 : SqL K H0 a xs) (h : SqL K H a xs) (o : Off F H H') (n : ∀ u, H0 a = some u → a ∉ F) : SqL K H' a xs := by
  have na : ∀ u, H0 a = some u → SqL K H' a xs := fun u e => by
    rcases h with (h | ⟨u, h⟩) | h
    · exact .inl (.inl (o _ _ (n _ e) h))
    · exact .inl (.inr ⟨u, o _ _ (n _ e) h⟩)
    · exact .inr h
  rcases h0 with (e | ⟨u, e⟩) | e
  · exact na _ e
  · exact na _ e
  · exact .inr e
/-- what stood ahead of a hall's making is none of its own, behind steps too -/
theorem HGrow.apart {H0 H H1 : Hp} {g g' : HallG} (gf : ∀ y ∈ g.list, H0 y = none) (s : Same H0 H) (G : HGrow H g g') : ∀ y u, H0 y = some u → y ∉ g'.list := fun y u e mm => by
  rcases G.2 y mm with h | h
  · rw [gf y h] at e
    cases e
  · rw [s y u e] at h
    cases h
end Sd
namespace Sd
open PySem L2
theorem step_recs (s : HallM) (i : Nat) : ∃ e, (s.step i).recs = s.recs ++ e := by
  unfold HallM.step
  cases h : s.stepped i with
  | none => exact ⟨[], (List.append_nil _).symm⟩
  | some s' =>
    unfold HallM.stepped at h
    split at h
    · cases h
    · cases h
      exact ⟨_, rfl⟩
theorem Paired.take {α β : Type} {R : α → β → Prop} : ∀ {xs : List α} {ys : List β}, Paired R xs ys → ∀ n, Paired R (xs.take n) (ys.take n)
  | _, _, .nil, n => by rw [List.take_nil, List.take_nil]; exact .nil
  | _, _, .cons r t, 0 => .nil
  | _, _, .cons r t, n + 1 => .cons r (Paired.take t n)
theorem recsD_lay (recs : List Rec) : PyData.canLay0 (recsD recs) = true := lay_recs recs
end Sd
namespace L2
open PySem
theorem upd_same' {H H' : Hp} {p : Addr} {o : HO} (s : Same H H') (h : H p = none) : Same H (upd H' p o) := fun b u e => by
  rw [upd_ne (ne_of_none e h)]
  exact s b u e
end L2

/-! copies of plans -/
namespace Sd
open PySem L2
/-- a copy of lists, list by list -/
structure Copied (H0 H : Hp) (D : Addr) (cs : List Addr) (pss : List (List Addr)) : Prop where
  st : Same H0 H
  hD : H D = some (.lst (cs.map V.ref))
  hcs : Paired (fun c ps => H c = some (.lst (ps.map V.ref))) cs pss
  fr : ∀ c ∈ cs, H0 c = none ∧ c ≠ D
  nd : cs.Nodup
  fD : H0 D = none
theorem Copied.add {H0 H : Hp} {D c : Addr} {cs ps : List Addr} {pss : List (List Addr)} (a : Copied H0 H D cs pss) (hc : H c = none) :
    Copied H0 (upd (upd H c (.lst (ps.map V.ref))) D (.lst (cs.map V.ref ++ [.ref c]))) D (cs ++ [c]) (pss ++ [ps]) := by
  have nc : c ≠ D := fun z => by rw [z, a.hD] at hc; cases hc
  have ncs : c ∉ cs := fun m => by
    obtain ⟨i, hi, e⟩ := List.mem_iff_getElem.mp m
    obtain ⟨y, _, hy⟩ := Paired.get2 a.hcs (show cs[i]? = some c by rw [List.getElem?_eq_getElem hi, e])
    rw [hc] at hy
    cases hy
  refine ⟨fun x o e => ?_, ?_, ?_, ?_, ?_, a.fD⟩
  · rw [upd_ne (ne_of_none e a.fD), upd_ne (ne_of_none (a.st _ _ e) hc)]
    exact a.st _ _ e
  · rw [upd_same, List.map_append]
    rfl
  · refine Paired.app (Paired.mapM a.hcs fun x hx y e => ?_) ?_
    · rw [upd_ne (a.fr x hx).2, upd_ne (fun z => ncs (by rw [← z]; exact hx))]
      exact e
    · rw [upd_ne nc, upd_same]
  · intro x hx
    rcases List.mem_append.mp hx with hx | hx
    · exact a.fr x hx
    · rw [List.mem_singleton.mp hx]
      exact ⟨a.st.free hc, nc⟩
  · refine List.nodup_append.mpr ⟨a.nd, by simp, fun x hx y hy => ?_⟩
    rw [List.mem_singleton.mp hy]
    exact fun z => ncs (by rw [← z]; exact hx)
theorem DrawnP.copied {H0 H1 H2 : Hp} {pl D : Addr} {ls cs : List Addr} {pss : List (List Addr)} {plans : List (List Deed)} {most : Nat} (R : DrawnP H0 H1 pl ls pss plans most) (C : Copied H1 H2 D cs pss) : DrawnP H1 H2 D cs pss plans most :=
  ⟨C.hD, C.hcs, Paired.mapM R.hps fun x _ y e => e.tu (Tu.same C.st), C.fD, fun l hl => (C.fr l hl).1, fun m => (C.fr D m).2 rfl, C.nd, R.short, R.ok, R.take⟩
end Sd

/-! the law's own count of a deed's steps -/
namespace Sd
open PySem L2
def ownN (s : HallM) (p : Nat) : Nat := (ownIn (handsOf s) (recN s.recs p).hand (lo (s.recs.take p) (recN s.recs p).hand) ((recN s.recs p).fin + 1)).length
theorem ownIn_map {hs : List Nat} {i l h : Nat} (hl : l ≤ h) : ownIn hs i l h = ((List.range (h - l)).filter fun j => decide (hs[l + j]? = some i)).map (l + ·) := by
  unfold ownIn
  rw [range_split hl, List.filter_append]
  have e1 : (List.range l).filter (fun k => decide (l ≤ k) && decide (hs[k]? = some i)) = [] := List.filter_eq_nil_iff.mpr fun k hk => by
    have := List.mem_range.mp hk
    rw [decide_eq_false (by omega)]
    exact Bool.false_ne_true
  rw [e1, List.nil_append, filter_map']
  congr 1
  refine List.filter_congr fun j _ => ?_
  rw [decide_eq_true (by omega : l ≤ l + j), Bool.true_and]
abbrev ownTo (hs : List Nat) (i l n : Nat) : List Nat := ((List.range n).filter fun j => decide (hs[l + j]? = some i)).map (l + ·)
theorem ownTo_succ {hs : List Nat} {i l n : Nat} : ownTo hs i l (n + 1) = if hs[l + n]? = some i then ownTo hs i l n ++ [l + n] else ownTo hs i l n := by
  unfold ownTo
  rw [List.range_succ, List.filter_append, List.map_append]
  by_cases c : hs[l + n]? = some i
  · rw [if_pos c, List.filter_cons_of_pos (p := fun j => decide (hs[l + j]? = some i)) (decide_eq_true c)]
    rfl
  · rw [if_neg c, List.filter_cons_of_neg (p := fun j => decide (hs[l + j]? = some i)) (by rw [decide_eq_false c]; exact Bool.false_ne_true)]
    exact List.append_nil _
theorem ownTo_len {hs : List Nat} {i l n : Nat} : (ownTo hs i l n).length ≤ n := by
  unfold ownTo
  rw [List.length_map]
  exact Nat.le_trans (List.length_filter_le _ _) (by rw [List.length_range]; exact Nat.le_refl _)
theorem take_lo {recs : List Rec} {p : Nat} {r : Rec} (e : recs[p]? = some r) (i : Nat) : lo (recs.take (p + 1)) i = if r.hand = i then r.fin + 1 else lo (recs.take p) i := by
  obtain ⟨h1, h2⟩ := List.getElem?_eq_some_iff.mp e
  rw [List.take_succ_eq_append_getElem h1, h2, lo_snoc]
def spOwn : Sp := fun vs H Q _ => ∃ (hl rl : Addr) (s : HallM), vs = [.ref hl, .ref rl] ∧ H hl = some (.lst ((handsOf s).map fun i : Nat => V.int (i : Int))) ∧ RecL H rl s.recs ∧ Tm s ∧ s.touches.length ≤ 100000 ∧ s.recs.length ≤ 1000 ∧
  ∀ p H', H p = none → Same H H' → H' p = some (.lst (((List.range s.recs.length).map (ownN s)).map fun i : Nat => V.int (i : Int))) → Q (.ref p) H'
/-- what a record's own steps are -/
theorem Tm.of_rec {s : HallM} (T : Tm s) {p : Nat} (hp : p < s.recs.length) : ∃ l : List Nat, l = ownIn (handsOf s) (recN s.recs p).hand (lo (s.recs.take p) (recN s.recs p).hand) ((recN s.recs p).fin + 1) ∧ l[0]? = some (recN s.recs p).beg ∧ l[l.length - 1]? = some (recN s.recs p).fin ∧ l ≠ [] ∧ l.length = ownN s p ∧
    ownN s p ≤ mostN s.many (recN s.recs p).deed ∧ (recN s.recs p).fin < s.touches.length := by
  obtain ⟨h1, h2, h3, h4⟩ := T.rec_ p _ (recN_at hp)
  refine ⟨_, rfl, ?_, ?_, ?_, rfl, h3, h4⟩
  · rw [← List.head?_eq_getElem?]
    exact h1
  · rw [← List.getLast?_eq_getElem?]
    exact h2
  · intro z
    rw [z] at h1
    cases h1
theorem lo_le_of {s : HallM} (T : Tm s) {p : Nat} (hp : p < s.recs.length) : lo (s.recs.take p) (recN s.recs p).hand ≤ (recN s.recs p).fin := by
  obtain ⟨l, e, h1, h2, _⟩ := T.of_rec hp
  have hm := List.mem_of_getElem? h2
  rw [e] at hm
  have := (List.mem_filter.mp hm).2
  rw [Bool.and_eq_true, decide_eq_true_iff] at this
  exact this.1
end Sd
namespace Sd
open PySem L2
def spLMost : Sp := fun vs H Q _ => ∃ (dd : Deed) (m : Int), vs = [.str dd.word, .int m] ∧ 0 ≤ m ∧ m ≤ 100 ∧ ∀ H', Same H H' → Q (.int (dd.most m)) H'
end Sd

/-! steps told in three ways; what is left behind a hand's last record -/
namespace Sd
open PySem L2
theorem cut_both {xs : List V} {k n : Nat} (h : k ≤ xs.length) : cutV xs (some (k : Int)) (some ((k + n : Nat) : Int)) = (xs.drop k).take n := by
  unfold cutV
  rw [HT.sIx_nat, HT.sIx_nat, Nat.min_eq_left h]
  by_cases e : k + n ≤ xs.length
  · rw [Nat.min_eq_left e, Nat.add_sub_cancel_left]
  · rw [Nat.min_eq_right (by omega), List.take_of_length_le (by rw [List.length_drop]; exact Nat.le_refl _), List.take_of_length_le (by rw [List.length_drop]; omega)]
def spLDone (CB CD CH : Addr) : Sp := fun vs H Q _ => ∃ (g : HallG) (s : HallM) (p : Addr) (row : List Nat) (way : Int), vs = [.ref g.ha, .ref p, .int way] ∧ HallAt CB CD CH H g s ∧ Fine s ∧ H p = some (.lst (row.map fun i : Nat => V.int (i : Int))) ∧ p ∉ g.list ∧ (∀ i ∈ row, i < s.many) ∧ s.touches.length + row.length ≤ 900000 ∧
  ∀ g' H', HallAt CB CD CH H' g' (s.weave row) → HGrow H g g' → Off g.list H H' → Q (.int (s.weaved row : Nat)) H'
def spPlanLeft : Sp := fun vs H Q _ => ∃ (pl hl rl : Addr) (pls : List V) (s : HallM), vs = [.ref pl, .ref hl, .ref rl] ∧ H pl = some (.lst pls) ∧ pls.length = s.many ∧ H hl = some (.lst ((handsOf s).map fun i : Nat => V.int (i : Int))) ∧ RecL H rl s.recs ∧ Tm s ∧ Fine s ∧ s.touches.length ≤ 100000 ∧
  ∀ p H', H p = none → Same H H' → H' p = some (.lst ((List.range s.many).map fun i => V.int (((s.hand i).steps : Nat) : Int))) → Q (.ref p) H'
/-- deeds as data -/
abbrev deedsD (ds : List Deed) : PyData := .list (ds.map fun d => .tuple d.data)
def DeedV (H : Hp) (v : V) (d : Deed) : Prop := ∃ p, v = .ref p ∧ DeedAt H p d
theorem DeedV.tu {H H' : Hp} {v : V} {d : Deed} (h : DeedV H v d) (t : Tu H H') : DeedV H' v d := by
  obtain ⟨p, e, h⟩ := h
  exact ⟨p, e, t _ _ h⟩
theorem dp_deeds {K : PySem.W.Frag} {H : Hp} : ∀ {vs : List V} {ds : List Deed}, Paired (DeedV H) vs ds → DpAll K H vs (ds.map fun d => .tuple d.data)
  | _, _, .nil => .nil
  | _, _, .cons ⟨p, e, h⟩ hs => by
    subst e
    exact .cons (.tup (SqT.of h) (Deed.dpAll _)) (dp_deeds hs)
theorem deeds_of {H : Hp} : ∀ {ps : List Addr} {ds : List Deed}, Paired (fun p d => DeedAt H p d) ps ds → Paired (DeedV H) (ps.map V.ref) ds
  | _, _, .nil => .nil
  | _, _, .cons h hs => .cons ⟨_, rfl, h⟩ (deeds_of hs)
theorem deedsD_lay : ∀ ds : List Deed, PyData.canLayAll0 (ds.map fun d => .tuple d.data) = true
  | [] => rfl
  | d :: ds => by
    show (PyData.canLayAll0 d.data && PyData.canLayAll0 (ds.map fun d => .tuple d.data)) = true
    rw [Deed.lay, deedsD_lay ds]
    rfl
theorem deedsD_depth : ∀ ds : List Deed, PyData.depthAll (ds.map fun d => .tuple d.data) ≤ 1
  | [] => Nat.zero_le _
  | d :: ds => by
    have h : PyData.depthAll ((d :: ds).map fun d => .tuple d.data) = max (PyData.depthAll d.data + 1) (PyData.depthAll (ds.map fun d => .tuple d.data)) := rfl
    have := deedsD_depth ds
    rw [Deed.depth] at h
    omega
theorem deedsD_shaped (ds : List Deed) : SeqAt.shaped (deedsD ds) = true := by
  have h1 : PyData.canLay0 (deedsD ds) = true := deedsD_lay ds
  have h2 : PyData.depth (deedsD ds) = PyData.depthAll (ds.map fun d => .tuple d.data) + 1 := rfl
  have := deedsD_depth ds
  unfold SeqAt.shaped
  rw [h1, Bool.true_and]
  exact decide_eq_true (by omega)
/-- max, default=-1 -/
def rMaxM (K : PySem.W.Frag) : List V → List V → Hp → VK → Prop := fun vs zs H Q => ∃ (a : Addr) (ns : List Int), vs = [V.ref a] ∧ zs = [.int (-1)] ∧ SqL K H a (ns.map V.int) ∧ ∀ z, (ns = [] ∧ z = -1 ∨ z ∈ ns ∧ ∀ x ∈ ns, x ≤ z) → Q (.int z) H
theorem cr_maxM {X : Cx} (hc : X.calm = true) (hu : X.A.units + 64 < cLine) : CallRK X (.builtin "max") ["default"] (rMaxM X.K) := by
  intro pins s σ H xs zs us ws Q I r1 r2 h
  obtain ⟨a, ns, rfl, rfl, hs, q⟩ := h
  exact cr_maxDef hc hu pins s σ H _ _ us ws Q I r1 r2 ⟨a, ns, .int (-1), rfl, rfl, hs, fun e => q _ (.inl ⟨e, rfl⟩), fun m h1 h2 => q m (.inr ⟨h1, h2⟩)⟩
theorem lo_of {recs : List Rec} {i : Nat} (hp : recs.Pairwise fun a b => a.fin < b.fin) {z : Int} (h : (recs.filter fun r => r.hand == i).map (fun r => ((r.fin : Nat) : Int)) = [] ∧ z = -1 ∨ z ∈ (recs.filter fun r => r.hand == i).map (fun r => ((r.fin : Nat) : Int)) ∧ ∀ y ∈ (recs.filter fun r => r.hand == i).map (fun r => ((r.fin : Nat) : Int)), y ≤ z) : z + 1 = ((lo recs i : Nat) : Int) := by
  rcases h with ⟨e, rfl⟩ | ⟨h1, h2⟩
  · rw [lo_nil e]
    rfl
  · exact lo_max hp h1 h2
theorem keepsM_len {recs : List Rec} {order : List Int} {m : Nat} (h : keepsM recs order m = true) : order.length = recs.length := by
  unfold keepsM at h
  split at h
  · rename_i hp
    have := hp.length_eq
    unfold rangeI at this
    rw [List.length_map, List.length_range] at this
    exact this
  · cases h
/-- a deed against a word -/
theorem Deed.shaped (d : Deed) : SeqAt.shaped (.tuple d.data) = true := by
  have h1 : PyData.canLay0 (.tuple d.data) = true := d.lay
  have h2 : PyData.depth (.tuple d.data) = PyData.depthAll d.data + 1 := rfl
  rw [Deed.depth] at h2
  unfold SeqAt.shaped
  rw [h1, Bool.true_and]
  exact decide_eq_true (by omega)
theorem eqv_word (d : Deed) : PyData.eqv (.tuple d.data) (.tuple [.str "one"]) = decide (d = .one) ∧ PyData.eqv (.tuple d.data) (.tuple [.str "count"]) = decide (d = .count) ∧ PyData.eqv (.tuple d.data) (.tuple [.str "look"]) = decide (d = .look) ∧ PyData.eqv (.tuple d.data) (.tuple [.str "take"]) = decide (d = .take) := by
  cases d <;> exact ⟨rfl, rfl, rfl, rfl⟩
theorem units65 {k : Nat} {A : Around} (h : Room k A) : A.units + 65 < cLine := by
  have := h.un
  omega
end Sd

/-! touches in the heap, a law's own boxes -/
namespace Sd
open PySem L2
def spThing : Sp := fun vs H Q _ => ∃ dd : Deed, vs = [.str dd.word] ∧ ∀ H', Same H H' → Q (.int (dd.thing : Nat)) H'
def spIsTouch : Sp := fun vs H Q _ => ∃ (tp bd : Addr) (t : Touch) (m : Nat) (kvs : List (L2.Key × V)), vs = [.ref tp, .int m, .ref bd] ∧ H tp = some (.tup [.int t.hand, .str (if t.put then "put" else "take"), .int t.place, .int t.num]) ∧ H bd = some (.dK kvs) ∧ kvs.length ≤ 1000 ∧
  0 < m ∧ m ≤ 4 ∧ t.place < 5 * m ∧ 0 ≤ t.num ∧ (t.put = true → t.place % m = t.hand) ∧ (t.put = false → (valV kvs (Sum.inl (t.place : Int))).getD (.int 0) = .int t.num) ∧
  ∀ H', Off [bd] H H' → H' bd = some (.dK (putK kvs (Sum.inl (t.place : Int)) (.int t.num))) → Q (.bl true) H'
theorem step_hands {s : HallM} (f : Fine s) {i : Nat} (hi : i < s.many) : handsOf (s.step i) = if (s.stepped i).isSome then handsOf s ++ [i] else handsOf s := by
  obtain ⟨G, I⟩ := f
  cases e : (s.plan i)[(s.hand i).ended]? with
  | none =>
    obtain ⟨k1, k2⟩ := stepped_none e
    rw [k2, k1]
    rfl
  | some d =>
    obtain ⟨s', h1, h2, S⟩ := stepped_of (by rw [I.hl]; exact hi) e
    rw [h1, h2]
    obtain ⟨t, ht, hti⟩ := S.touch
    unfold handsOf
    rw [ht, List.map_append]
    show _ ++ [t.hand] = _
    rw [hti]
    rfl
end Sd

/-! one hand after another: what is due -/
namespace Sd
open PySem L2
structure KA where
  d2 : Addr
  a : Addr
  hl : Addr
  dl : Addr
  d : Addr
  a1 : Addr
  a2 : Addr
  a3 : Addr
  a4 : Addr
def KA.P (x : KA) : List Addr := [x.d, x.a1, x.a2, x.a3, x.a4]
def KA.F (x : KA) : List Addr := x.d2 :: x.hl :: x.dl :: x.P
def DueAt (H : Hp) (v : V) (r : Rec) : Prop := ∃ q dp av, v = .ref q ∧ H q = some (.tup [.int (r.hand : Nat), .ref dp, av]) ∧ DeedAt H dp r.deed ∧ r.ans.At H av
theorem DueAt.tu {H H' : Hp} {v : V} {r : Rec} (h : DueAt H v r) (t : Tu H H') : DueAt H' v r := by
  obtain ⟨q, dp, av, e, h1, h2, h3⟩ := h
  exact ⟨q, dp, av, e, t _ _ h1, t _ _ h2, h3.tu t⟩
structure KH (CB CD CH : Addr) (H0 : Hp) (g0 : HallG) (x : KA) (m : Nat) (H : Hp) (g : HallG) (s : HallM) (hands : List Nat) (D : List Rec) : Prop where
  hall : HallAt CB CD CH H g s
  grow : HGrow H0 g0 g
  off : Off (x.F ++ g0.list) H0 H
  ap : ∀ y ∈ x.F, y ∉ g.list
  dice : Dice H x.d2 x.a
  hs : H x.hl = some (.lst (hands.map fun i : Nat => V.int (i : Int)))
  due : ∃ dvs, H x.dl = some (.lst dvs) ∧ Paired (DueAt H) dvs D
  pl : (after (L5.first m) D).At H x.d x.a1 x.a2 x.a3 x.a4
section
variable {CB CD CH : Addr} {H0 : Hp} {g0 : HallG} {x : KA} {m : Nat} {H : Hp} {g : HallG} {s : HallM} {hands : List Nat} {D : List Rec}
theorem KH.trackedP (h : KH CB CD CH H0 g0 x m H g s hands D) : ∀ y ∈ x.P, ∃ o, H y = some o := by
  intro y hy
  unfold KA.P at hy
  simp only [List.mem_cons, List.not_mem_nil, or_false] at hy
  rcases hy with rfl | rfl | rfl | rfl | rfl
  · exact ⟨_, h.pl.d⟩
  · exact ⟨_, h.pl.c1⟩
  · exact ⟨_, h.pl.c2⟩
  · exact ⟨_, h.pl.c3⟩
  · exact ⟨_, h.pl.c4⟩
theorem KH.tracked (h : KH CB CD CH H0 g0 x m H g s hands D) : ∀ y ∈ x.F, ∃ o, H y = some o := by
  intro y hy
  obtain ⟨n, k, gg, hd⟩ := h.dice
  obtain ⟨dvs, h1, _⟩ := h.due
  rcases List.mem_cons.mp hy with rfl | hy
  · exact ⟨_, hd⟩
  rcases List.mem_cons.mp hy with rfl | hy
  · exact ⟨_, h.hs⟩
  rcases List.mem_cons.mp hy with rfl | hy
  · exact ⟨_, h1⟩
  exact h.trackedP y hy
theorem KH.noTup (h : KH CB CD CH H0 g0 x m H g s hands D) : ∀ y ∈ x.F, ∀ xs, H y ≠ some (.tup xs) := by
  intro y hy xs e
  obtain ⟨n, k, gg, hd⟩ := h.dice
  obtain ⟨dvs, h1, _⟩ := h.due
  rcases List.mem_cons.mp hy with rfl | hy
  · rw [hd] at e; cases e
  rcases List.mem_cons.mp hy with rfl | hy
  · rw [h.hs] at e; cases e
  rcases List.mem_cons.mp hy with rfl | hy
  · rw [h1] at e; cases e
  exact h.pl.noTup y hy xs e
theorem KH.same {H' : Hp} (h : KH CB CD CH H0 g0 x m H g s hands D) (e : Same H H') : KH CB CD CH H0 g0 x m H' g s hands D := by
  obtain ⟨dvs, h1, h2⟩ := h.due
  exact ⟨h.hall.same e, h.grow, fun y u n z => e y u (h.off y u n z), h.ap, h.dice.same e, e _ _ h.hs, ⟨dvs, e _ _ h1, Paired.mapM h2 fun y _ z r => r.tu (Tu.same e)⟩, h.pl.off (F := []) (Off.of_same e) (by simp)⟩
theorem KH.weave {H' : Hp} {g' : HallG} {s' : HallM} (h : KH CB CD CH H0 g0 x m H g s hands D) (A : HallAt CB CD CH H' g' s') (G : HGrow H g g') (O : Off g.list H H') : KH CB CD CH H0 g0 x m H' g' s' hands D := by
  have o0 : Off g0.list H0 H → True := fun _ => True.intro
  have ng : ∀ y u, y ∉ x.F ++ g0.list → H0 y = some u → y ∉ g.list := fun y u n e mm => by
    rcases h.grow.2 y mm with z | z
    · exact n (List.mem_append.mpr (.inr z))
    · rw [z] at e; cases e
  obtain ⟨dvs, h1, h2⟩ := h.due
  obtain ⟨n, k, gg, hd⟩ := h.dice
  have P : ∀ y ∈ x.P, y ∈ x.F := fun y hy => List.mem_cons_of_mem _ (List.mem_cons_of_mem _ (List.mem_cons_of_mem _ hy))
  refine ⟨A, ⟨G.1.trans h.grow.1, fun y hy => ?_⟩, fun y u n e => O y u (ng y u n e) (h.off y u n e), fun y hy mm => ?_, ⟨n, k, gg, O _ _ (h.ap _ (by simp [KA.F])) hd⟩, O _ _ (h.ap _ (by simp [KA.F])) h.hs,
    ⟨dvs, O _ _ (h.ap _ (by simp [KA.F])) h1, Paired.mapM h2 fun y _ z r => r.tu (Tu.off O h.hall.noTup)⟩, h.pl.off O fun y hy => h.ap y (P y hy)⟩
  · rcases G.2 y hy with z | z
    · exact h.grow.2 y z
    · by_cases c : y ∈ x.F ++ g0.list
      · rcases List.mem_append.mp c with c | c
        · obtain ⟨o, ho⟩ := h.tracked y c
          rw [z] at ho
          cases ho
        · exact .inl c
      · refine .inr ?_
        cases e : H0 y with
        | none => rfl
        | some u => rw [h.off y u c e] at z; cases z
  · rcases G.2 y mm with z | z
    · exact h.ap y hy z
    · obtain ⟨o, ho⟩ := h.tracked y hy
      rw [z] at ho
      cases ho
/-- what changes among the law's own objects -/
theorem KH.change {H' : Hp} {hands' : List Nat} {D' : List Rec} (h : KH CB CD CH H0 g0 x m H g s hands D) (o : Off x.F H H') (dice : Dice H' x.d2 x.a) (hs : H' x.hl = some (.lst (hands'.map fun i : Nat => V.int (i : Int))))
    (due : ∃ dvs, H' x.dl = some (.lst dvs) ∧ Paired (DueAt H') dvs D') (pl : (after (L5.first m) D').At H' x.d x.a1 x.a2 x.a3 x.a4) : KH CB CD CH H0 g0 x m H' g s hands' D' :=
  ⟨h.hall.off o (fun y hy mm => h.ap y mm hy) (Tu.off o h.noTup), h.grow, fun y u n e => o y u (fun mm => n (List.mem_append.mpr (.inl mm))) (h.off y u n e), h.ap, dice, hs, due, pl⟩
theorem KH.duesTu {H' : Hp} (h : KH CB CD CH H0 g0 x m H g s hands D) (o : Off x.F H H') {dvs : List V} (p : Paired (DueAt H) dvs D) : Paired (DueAt H') dvs D := Paired.mapM p fun y _ z r => r.tu (Tu.off o h.noTup)
theorem KH.draw {H' : Hp} (h : KH CB CD CH H0 g0 x m H g s hands D) (nF : x.F.Nodup) (d : Dice H' x.d2 x.a) (o : ∀ b, b ≠ x.d2 → H' b = H b) : KH CB CD CH H0 g0 x m H' g s hands D := by
  have o' : Off x.F H H' := fun y u n e => by rw [o y (fun z => n (by rw [z]; simp [KA.F]))]; exact e
  obtain ⟨dvs, h1, h2⟩ := h.due
  unfold KA.F at nF
  obtain ⟨n1, nF⟩ := List.nodup_cons.mp nF
  have nn : ∀ y ∈ x.hl :: x.dl :: x.P, y ≠ x.d2 := fun y hy z => n1 (z ▸ hy)
  refine h.change o' d (by rw [o _ (nn _ (by simp))]; exact h.hs) ⟨dvs, by rw [o _ (nn _ (by simp))]; exact h1, h.duesTu o' h2⟩ (h.pl.off (F := [x.d2]) (fun y u n e => by rw [o y (fun z => n (by rw [z]; simp))]; exact e) fun y hy mm => nn y (List.mem_cons_of_mem _ (List.mem_cons_of_mem _ hy)) (List.mem_singleton.mp mm))
theorem KH.pop (h : KH CB CD CH H0 g0 x m H g s hands D) (nF : x.F.Nodup) (hands' : List Nat) : KH CB CD CH H0 g0 x m (upd H x.hl (.lst (hands'.map fun i : Nat => V.int (i : Int)))) g s hands' D := by
  have o' : Off x.F H (upd H x.hl (.lst (hands'.map fun i : Nat => V.int (i : Int)))) := Off.upd (by simp [KA.F])
  obtain ⟨dvs, h1, h2⟩ := h.due
  obtain ⟨n, k, gg, hd⟩ := h.dice
  unfold KA.F at nF
  obtain ⟨n1, nF⟩ := List.nodup_cons.mp nF
  obtain ⟨n2, nF⟩ := List.nodup_cons.mp nF
  refine h.change o' ⟨n, k, gg, by rw [upd_ne (fun z => n1 (by rw [z]; simp))]; exact hd⟩ upd_same ⟨dvs, by rw [upd_ne (fun z => n2 (by rw [← z]; simp))]; exact h1, h.duesTu o' h2⟩ (h.pl.off (F := [x.hl]) (Off.upd (by simp)) fun y hy mm => n2 (by rw [← List.mem_singleton.mp mm]; exact List.mem_cons_of_mem _ hy))
theorem KH.add {H1 : Hp} {r : Rec} {q dp : Addr} {av : V} (h : KH CB CD CH H0 g0 x m H g s hands D) (nF : x.F.Nodup) (o1 : Off x.P H H1) (p1 : (after (L5.first m) (D ++ [r])).At H1 x.d x.a1 x.a2 x.a3 x.a4) (hq : H1 q = none)
    (hd : DeedAt H1 dp r.deed) (ha : r.ans.At H1 av) {dvs : List V} (hv : H x.dl = some (.lst dvs)) (hp : Paired (DueAt H) dvs D) :
    KH CB CD CH H0 g0 x m (upd (upd H1 q (.tup [.int (r.hand : Nat), .ref dp, av])) x.dl (.lst (dvs ++ [.ref q]))) g s hands (D ++ [r]) := by
  obtain ⟨n, k, gg, hdi⟩ := h.dice
  have P : ∀ y ∈ x.P, y ∈ x.F := fun y hy => List.mem_cons_of_mem _ (List.mem_cons_of_mem _ (List.mem_cons_of_mem _ hy))
  have nF' := nF
  unfold KA.F at nF
  obtain ⟨n1, nF⟩ := List.nodup_cons.mp nF
  obtain ⟨n2, nF⟩ := List.nodup_cons.mp nF
  obtain ⟨n3, nF⟩ := List.nodup_cons.mp nF
  have s1 := Same.new (o := .tup [.int (r.hand : Nat), .ref dp, av]) hq
  have ndl : x.dl ≠ q := fun z => by
    have := o1 _ _ n3 hv
    rw [z, hq] at this
    cases this
  have odl : Off [x.dl] (upd H1 q (.tup [.int (r.hand : Nat), .ref dp, av])) (upd (upd H1 q (.tup [.int (r.hand : Nat), .ref dp, av])) x.dl (.lst (dvs ++ [.ref q]))) := Off.upd (by simp)
  have hdl2 := s1 _ _ (o1 _ _ n3 hv)
  have o' : Off x.F H (upd (upd H1 q (.tup [.int (r.hand : Nat), .ref dp, av])) x.dl (.lst (dvs ++ [.ref q]))) := fun y u n e => odl y u (fun mm => n (by rw [List.mem_singleton.mp mm]; simp [KA.F])) (s1 y u (o1 y u (fun mm => n (P y mm)) e))
  have t2 : Tu H1 (upd (upd H1 q (.tup [.int (r.hand : Nat), .ref dp, av])) x.dl (.lst (dvs ++ [.ref q]))) := (Tu.same s1).trans (Tu.off odl fun y hy xs e => by
    rw [List.mem_singleton.mp hy, hdl2] at e
    cases e)
  refine h.change o' ⟨n, k, gg, odl _ _ (fun mm => n1 (by rw [List.mem_singleton.mp mm]; simp)) (s1 _ _ (o1 _ _ (fun mm => n1 (by simp [mm])) hdi))⟩ (odl _ _ (fun mm => n2 (by rw [List.mem_singleton.mp mm]; simp)) (s1 _ _ (o1 _ _ (fun mm => n2 (by simp [mm])) h.hs)))
    ⟨dvs ++ [.ref q], upd_same, Paired.app (h.duesTu o' hp) ⟨q, dp, av, rfl, odl _ _ (fun mm => ndl (List.mem_singleton.mp mm).symm) upd_same, t2 _ _ hd, ha.tu t2⟩⟩
    ((p1.off (F := []) (Off.of_same s1) (by simp)).off odl fun y hy mm => n3 (by rw [← List.mem_singleton.mp mm]; exact hy))
end
/-- how the due things stand to the records -/
structure KP (m : Nat) (plans : List (List Deed)) (s : HallM) (hands : List Nat) (D : List Rec) (k : Nat) : Prop where
  fine : Fine s
  plans : s.plans = plans
  seq : Seq s
  hd : s.recs.map hd = D.map hd
  ans : ∀ j r, D[j]? = some r → (after (L5.first m) (D.take j)).ans r.deed = r.ans
  idle : ∀ i ∈ hands, i < m ∧ (s.hand i).ended = 0 ∧ (s.hand i).steps = 0
  nd : hands.Nodup
  tl : s.touches.length ≤ 200 * k
  dl : D.length ≤ 7 * k
theorem after_ok {m : Nat} : ∀ (D : List Rec) (s : L5), s.Ok m → s.line.length + D.length < 10000 → (∀ r ∈ D, r.deed.ok) → (after s D).Ok m ∧ (after s D).line.length ≤ s.line.length + D.length
  | [], s, h, _, _ => ⟨h, Nat.le_refl _⟩
  | r :: D, s, h, hl, hd => by
    rw [List.length_cons] at hl
    have hb := h.behind (h := r.hand) (hd r List.mem_cons_self) (by omega)
    have hn := s.len_behind r.hand r.deed
    obtain ⟨h1, h2⟩ := after_ok D (s.behind r.hand r.deed) hb (by omega) fun q hq => hd q (List.mem_cons_of_mem _ hq)
    refine ⟨h1, Nat.le_trans h2 ?_⟩
    rw [List.length_cons]
    omega
theorem idx_nat {k n : Nat} (h : k < n) : seqIndex? ((k : Nat) : Int) n = some k := by
  unfold seqIndex?
  have h1 : ¬ (((k : Nat) : Int) < 0) := by omega
  simp only [h1, if_false]
  have h2 : 0 ≤ ((k : Nat) : Int) ∧ ((k : Nat) : Int) < (n : Nat) := by omega
  simp [h2, h]
theorem rep_flat1 {v : V} : ∀ n : Nat, (List.replicate n [v]).flatten = List.replicate n v
  | 0 => rfl
  | n + 1 => by rw [List.replicate_succ, List.flatten_cons, rep_flat1 n]; rfl
theorem rep_map {i n : Nat} : (List.replicate n i).map (fun i : Nat => V.int (i : Int)) = List.replicate n (V.int (i : Int)) := List.map_replicate
theorem sum_most {m : Nat} : ∀ l : List Deed, (l.map fun d => ((mostN m d : Nat) : Int)).sum = ((sumMost m l : Nat) : Int)
  | [] => rfl
  | d :: l => by
    have h := sumMost_app m [d] l
    have h1 : sumMost m [d] = 0 + mostN m d := rfl
    rw [List.singleton_append] at h
    rw [List.map_cons, List.sum_cons, sum_most l, h, h1]
    omega
end Sd

/-! lists of a hall's records, by their places -/
namespace Sd
open PySem L2
def valsJ (rvs : List V) (J : List Nat) : List V := J.map fun i => rvs.getD i .non
theorem valsJ_get {rvs : List V} {J : List Nat} {k : Nat} {z : V} (h : (valsJ rvs J)[k]? = some z) : ∃ i, J[k]? = some i ∧ z = rvs.getD i .non := by
  unfold valsJ at h
  rw [List.getElem?_map] at h
  obtain ⟨i, h1, h2⟩ := Option.map_eq_some_iff.mp h
  exact ⟨i, h1, h2.symm⟩
theorem valsJ_len {rvs : List V} {J : List Nat} : (valsJ rvs J).length = J.length := List.length_map ..
theorem valsJ_app {rvs : List V} {J : List Nat} {i : Nat} : valsJ rvs (J ++ [i]) = valsJ rvs J ++ [rvs.getD i .non] := List.map_append ..
theorem getD_of {rvs : List V} {k : Nat} {z : V} (h : rvs[k]? = some z) : rvs.getD k .non = z := by
  rw [List.getD_eq_getElem?_getD, h]
  rfl
theorem recJ {H : Hp} {rvs : List V} {recs : List Rec} (p : Paired (RecAt H) rvs recs) {i : Nat} (hi : i < recs.length) : RecAt H (rvs.getD i .non) (recN recs i) := by
  obtain ⟨v, hv, h⟩ := Paired.get p (recN_at hi)
  rw [getD_of hv]
  exact h
theorem dpJ {K : PySem.W.Frag} {H : Hp} {rvs : List V} {recs : List Rec} (p : Paired (RecAt H) rvs recs) : ∀ {J : List Nat}, (∀ i ∈ J, i < recs.length) → DpAll K H (valsJ rvs J) (J.map fun i => recD (recN recs i))
  | [], _ => .nil
  | i :: J, h => .cons (recJ p (h i List.mem_cons_self)).dp (dpJ p fun j hj => h j (List.mem_cons_of_mem _ hj))
abbrev dataJ (recs : List Rec) (J : List Nat) : PyData := .list (J.map fun i => recD (recN recs i))
theorem dataJ_eq (recs : List Rec) (J : List Nat) : dataJ recs J = recsD (J.map (recN recs)) := by
  unfold dataJ recsD
  rw [List.map_map]
  rfl
theorem shJ (recs : List Rec) (J : List Nat) : SeqAt.shaped (dataJ recs J) = true := by rw [dataJ_eq]; exact recsD_shaped _
theorem layJ (recs : List Rec) (J : List Nat) : PyData.canLay0 (dataJ recs J) = true := by rw [dataJ_eq]; exact recsD_lay _
theorem recD_shaped (r : Rec) : SeqAt.shaped (recD r) = true := by
  have := recD_depth r
  unfold SeqAt.shaped
  rw [recD_lay, Bool.true_and]
  exact decide_eq_true (by omega)
theorem eqv_fin {a b : Rec} (h : PyData.eqv (recD a) (recD b) = true) : a.fin = b.fin := by
  have h : (PyData.eqv (.int a.hand) (.int b.hand) && (PyData.eqv (.tuple a.deed.data) (.tuple b.deed.data) && (PyData.eqv (.int a.beg) (.int b.beg) && (PyData.eqv (.int a.fin) (.int b.fin) && (PyData.eqv (ansD a.ans) (ansD b.ans) && true))))) = true := h
  simp only [Bool.and_eq_true] at h
  have h4 : decide ((a.fin : Int) = (b.fin : Int)) = true := h.2.2.2.1
  have := of_decide_eq_true h4
  omega
section
variable {recs : List Rec}
theorem eqvJ (hf : recs.Pairwise fun a b => a.fin < b.fin) {i j : Nat} (hi : i < recs.length) (hj : j < recs.length) : PyData.eqv (recD (recN recs i)) (recD (recN recs j)) = decide (i = j) := by
  by_cases c : i = j
  · rw [c, decide_eq_true rfl]
    exact SeqAt.eqv_refl _ (recD_lay _)
  · rw [decide_eq_false c]
    cases h : PyData.eqv (recD (recN recs i)) (recD (recN recs j)) with
    | false => rfl
    | true =>
      have h1 := eqv_fin h
      obtain ⟨a1, a2⟩ := List.getElem?_eq_some_iff.mp (recN_at hi)
      obtain ⟨b1, b2⟩ := List.getElem?_eq_some_iff.mp (recN_at hj)
      rcases Nat.lt_or_gt_of_ne c with l | l
      · have := List.pairwise_iff_getElem.mp hf i j a1 b1 l
        rw [a2, b2] at this
        omega
      · have := List.pairwise_iff_getElem.mp hf j i b1 a1 l
        rw [a2, b2] at this
        omega
theorem anyJ (hf : recs.Pairwise fun a b => a.fin < b.fin) {i : Nat} (hi : i < recs.length) : ∀ {J : List Nat}, (∀ j ∈ J, j < recs.length) → ((J.map fun i => recD (recN recs i)).any fun z => PyData.eqv z (recD (recN recs i))) = decide (i ∈ J)
  | [], _ => rfl
  | j :: J, h => by
    rw [List.map_cons, List.any_cons, anyJ hf hi fun y hy => h y (List.mem_cons_of_mem _ hy), eqvJ hf (h j List.mem_cons_self) hi]
    by_cases c : j = i
    · rw [decide_eq_true c, c, decide_eq_true List.mem_cons_self]
      rfl
    · rw [decide_eq_false c, Bool.false_or]
      refine decide_eq_decide.mpr ⟨List.mem_cons_of_mem _, fun z => ?_⟩
      rcases List.mem_cons.mp z with e | e
      · exact absurd e.symm c
      · exact e
end
theorem take_filter {n k p : Nat} {P : Nat → Bool} (h : ((List.range n).filter P)[k]? = some p) : p < n ∧ P p = true ∧ ((List.range n).filter P).take k = (List.range p).filter P := by
  have hm := List.mem_filter.mp (List.mem_of_getElem? h)
  have hp := List.mem_range.mp hm.1
  refine ⟨hp, hm.2, ?_⟩
  have e : List.range n = List.range p ++ (p :: (List.range (n - p - 1)).map (p + 1 + ·)) := by
    have h1 := range_split (show p + 1 ≤ n by omega)
    rw [List.range_succ, List.append_assoc] at h1
    rw [h1]
    congr 3
  have e2 : (List.range n).filter P = (List.range p).filter P ++ (p :: ((List.range (n - p - 1)).map (p + 1 + ·)).filter P) := by
    rw [e, List.filter_append, List.filter_cons_of_pos hm.2]
  have pw : ((List.range n).filter P).Pairwise (· < ·) := List.Pairwise.filter _ List.pairwise_lt_range
  have hk : k = ((List.range p).filter P).length := by
    obtain ⟨k1, k2⟩ := List.getElem?_eq_some_iff.mp h
    have hl : ((List.range p).filter P).length < ((List.range n).filter P).length := by
      rw [e2, List.length_append, List.length_cons]
      omega
    have hg : ((List.range n).filter P)[((List.range p).filter P).length]? = some p := by
      rw [e2, List.getElem?_append_right (Nat.le_refl _), Nat.sub_self]
      rfl
    obtain ⟨g1, g2⟩ := List.getElem?_eq_some_iff.mp hg
    rcases Nat.lt_trichotomy k ((List.range p).filter P).length with c | c | c
    · have := List.pairwise_iff_getElem.mp pw _ _ k1 g1 c
      omega
    · exact c
    · have := List.pairwise_iff_getElem.mp pw _ _ g1 k1 c
      omega
  rw [hk, e2, List.take_left]
theorem told_filter {n : Nat} {R : Nat → Rec} {M : Nat → Mark} (p : Nat) : toldP n R M p = ((List.range p).filter fun q => isTk (R q).deed).filterMap (giver n R M) := by
  induction p with
  | zero => rfl
  | succ p ih =>
    rw [toldP_succ, List.range_succ, List.filter_append, List.filterMap_append, ih]
    congr 1
    by_cases c : isTk (R p).deed = true
    · rw [List.filter_cons_of_pos (p := fun q => isTk (R q).deed) c, List.filter_nil, List.filterMap_cons, List.filterMap_nil]
      cases giver n R M p <;> rfl
    · rw [List.filter_cons_of_neg (p := fun q => isTk (R q).deed) c]
      cases h : giver n R M p with
      | none => rfl
      | some g => exact absurd (giver_some h).1 c
theorem word_give (d : Deed) : decide (V.str d.word = V.str "give") = isGv d := by cases d <;> rfl
end Sd

/-! views and their ages -/
namespace Sd
open PySem L2
def SetsAt (H : Hp) (ls : List Addr) (rss : List (List Rec)) : Prop := Paired (fun l rs => ∃ rvs : List V, H l = some (.lst rvs) ∧ Paired (RecAt H) rvs rs) ls rss
theorem SetsAt.same {H H' : Hp} {ls : List Addr} {rss : List (List Rec)} (h : SetsAt H ls rss) (s : Same H H') : SetsAt H' ls rss := Paired.mapM h fun l _ rs ⟨rvs, h1, h2⟩ =>
  ⟨rvs, s _ _ h1, Paired.mapM h2 fun y _ z e => e.tu (Tu.same s)⟩
abbrev natsI (ages : List Nat) : List V := ages.map fun n : Nat => V.int (n : Int)
abbrev setVals (rs : List Rec) : List Int := (0 : Int) :: rs.map fun r => setOf r.deed
structure AgesOk (rss : List (List Rec)) (cells : List Int) (ages : List Nat) : Prop where
  l1 : cells.length = rss.length
  l2 : ages.length = rss.length
  l3 : rss.length ≤ 4
  at_ : ∀ i, i < rss.length → (setVals (rss.getD i []))[ages.getD i 0]? = some (cells.getD i 0)
  up : ∀ rs ∈ rss, (setVals rs).Pairwise (· < ·) ∧ rs.length ≤ 1000 ∧ ∀ r ∈ rs, isSet r.deed = true
def spAges : Sp := fun vs H Q _ => ∃ (vp sl : Addr) (cells : List Int) (ls : List Addr) (rss : List (List Rec)) (ages : List Nat),
  vs = [.ref vp, .ref sl] ∧ H vp = some (.tup (cells.map V.int)) ∧ H sl = some (.lst (ls.map V.ref)) ∧ SetsAt H ls rss ∧ AgesOk rss cells ages ∧
  ∀ p H', H p = none → Same H H' → H' p = some (.lst (natsI ages)) → Q (.ref p) H'
def spOfTime : Sp := fun vs H Q _ => ∃ (rv : V) (ap sl : Addr) (ls : List Addr) (rss : List (List Rec)) (ages : List Nat) (r : Rec),
  vs = [rv, .ref ap, .ref sl] ∧ RecAt H rv r ∧ H ap = some (.lst (natsI ages)) ∧ H sl = some (.lst (ls.map V.ref)) ∧ SetsAt H ls rss ∧ ages.length = rss.length ∧ rss.length ≤ 4 ∧
  (∀ rs ∈ rss, rs.length ≤ 1000) ∧ (∀ i, i < rss.length → ((rss.getD i []).filter fun o => decide (o.fin < r.beg)).length ≤ ages.getD i 0 ∧ ages.getD i 0 ≤ ((rss.getD i []).filter fun o => decide (o.beg < r.fin)).length) ∧
  ∀ H', Same H H' → Q (.bl true) H'
def newerB (xs ys : List Nat) : Bool := (xs.zip ys).all fun p => decide (p.2 ≤ p.1)
def spNewer : Sp := fun vs H Q _ => ∃ (a b : Addr) (xs ys : List Nat), vs = [.ref a, .ref b] ∧ H a = some (.lst (natsI xs)) ∧ H b = some (.lst (natsI ys)) ∧ xs.length = ys.length ∧ xs.length ≤ 100 ∧
  ∀ H', Same H H' → Q (.bl (newerB xs ys)) H'
theorem newer_ages {C : List Chg} {m K K' : Nat} (h : K' ≤ K) : newerB ((List.range m).map (cnt C K)) ((List.range m).map (cnt C K')) = true := by
  unfold newerB
  rw [List.all_eq_true]
  intro p hp
  rw [List.zip_map'] at hp
  obtain ⟨i, _, rfl⟩ := List.mem_map.mp hp
  exact decide_eq_true (cnt_mono i h)
def isLook (r : Rec) : Bool := decide (r.deed = .look)
theorem eqv_look (d : Deed) : PyData.eqv (.tuple d.data) (.tuple [.str "look"]) = decide (d = .look) := by
  cases d <;> first | rfl | exact (Bool.eq_false_iff.mpr (by simp [PyData.eqv, PyData.eqvAll, Deed.data])).trans (by simp)
theorem word_set (d : Deed) : decide (V.str d.word = V.str "set") = isSet d := by cases d <;> rfl
theorem set_vals_of {d : Deed} (h : isSet d = true) : d = .set (setOf d) := by cases d <;> first | rfl | cases h
theorem flatInts : ∀ ns : List Int, (ns.map V.int).all flatV = true
  | [] => rfl
  | _ :: r => flatInts r
theorem inV_ints {z : Int} {ns : List Int} (h : z ∈ ns) : inV (.int z) (ns.map V.int) = true := by
  unfold inV
  rw [List.any_eq_true]
  exact ⟨_, List.mem_map_of_mem h, beq_self_eq_true z⟩
theorem eqV_int (a b : Int) : eqV (.int a) (.int b) = decide (a = b) := by
  show (a == b) = _
  by_cases c : a = b
  · rw [c, beq_self_eq_true, decide_eq_true rfl]
  · rw [decide_eq_false c]
    exact beq_eq_false_iff_ne.mpr c
theorem up_first {ns : List Int} (h : ns.Pairwise (· < ·)) {j : Nat} {z : Int} (hj : ns[j]? = some z) : ∀ (m : Nat) (z' : V), m < j → (ns.map V.int)[m]? = some z' → eqV z' (.int z) = false := by
  intro m z' hm hz
  obtain ⟨y, hy, rfl⟩ := ints_got hz
  rw [eqV_int]
  obtain ⟨a1, a2⟩ := List.getElem?_eq_some_iff.mp hy
  obtain ⟨b1, b2⟩ := List.getElem?_eq_some_iff.mp hj
  have := List.pairwise_iff_getElem.mp h m j a1 b1 hm
  rw [a2, b2] at this
  exact decide_eq_false (by omega)
end Sd

/-! long days -/
namespace Sd
open PySem L2
def spMost : Sp := fun vs H Q _ => ∃ (p : Addr) (dd : Deed) (m : Int), vs = [.ref p, .int m] ∧ H p = some (.tup dd.vals) ∧ 0 ≤ m ∧ m ≤ 100 ∧ ∀ H', Same H H' → Q (.int (dd.most m)) H'
def spShort : Sp := fun vs H Q _ => ∃ (rl tl : Addr) (s : HallM) (tvs : List V), vs = [.ref rl, .ref tl, .int (s.many : Nat)] ∧ RecL H rl s.recs ∧ H tl = some (.lst tvs) ∧ Paired (TouchAt H) tvs s.touches ∧ Tm s ∧ Fine s ∧ s.touches.length ≤ 100000 ∧
  ∀ H', Same H H' → Q (.bl true) H'
def spIsKept (K : PySem.W.Frag) : Sp := fun vs H Q _ => ∃ (d a rl ol : Addr) (ns : List Int) (recs : List Rec) (order : List Int) (m : Nat), vs = [.ref d, .ref rl, .ref ol, .int m] ∧ Dice H d a ∧ SqL K H a (ns.map V.int) ∧ RecsAt H rl recs m ∧ H ol = some (.lst (order.map V.int)) ∧
  1 ≤ m ∧ m ≤ 4 ∧ recs.length ≤ 160 ∧ keepsM recs order m = true ∧ ∀ H', Q (.bl true) H'
theorem Paired.drop {α β : Type} {R : α → β → Prop} : ∀ {xs : List α} {ys : List β}, Paired R xs ys → ∀ n, Paired R (xs.drop n) (ys.drop n)
  | _, _, .nil, n => by rw [List.drop_nil, List.drop_nil]; exact .nil
  | _, _, .cons r t, 0 => .cons r t
  | _, _, .cons r t, n + 1 => Paired.drop t n
theorem cut_set {xs : List V} {n : Nat} {x : V} (h : n < xs.length) : cutV xs none (some ((n : Nat) : Int)) ++ [x] ++ cutV xs (some ((n + 1 : Nat) : Int)) none = xs.set n x := by
  rw [cut_take (Nat.le_of_lt h), cut_drop, List.append_assoc, List.set_eq_take_append_cons_drop, if_pos h]
  rfl
theorem order_at {order : List Int} {n k : Nat} (hp : order.Perm (rangeI n)) (h : k < order.length) : ∃ p : Nat, order[k]? = some (p : Int) ∧ p < n := by
  have h1 := hp.mem_iff.mp (List.getElem_mem h)
  obtain ⟨p, e, hp2⟩ := mem_rangeI h1
  exact ⟨p, by rw [List.getElem?_eq_getElem h, e], hp2⟩
/-- a hall, its drawn plans and the draws, side by side -/
structure Day (CB CD CH : Addr) (K : PySem.W.Frag) (Ha H0 : Hp) (x d a pl : Addr) (ls : List Addr) (pss : List (List Addr)) (plans : List (List Deed)) (most : Nat) (ns : List Int) (H : Hp) (g : HallG) (s : HallM) : Prop where
  gh : g.ha = x
  hall : HallAt CB CD CH H g s
  fine : Fine s
  tm : Tm s
  pls : s.plans = plans
  dice : Dice H d a
  seq : SqL K H a (ns.map V.int)
  seq0 : SqL K Ha a (ns.map V.int)
  dr : DrawnP H0 H pl ls pss plans most
  ap : ∀ y ∈ d :: pl :: ls, y ∉ g.list
  apa : ∀ u, Ha a = some u → a ≠ d ∧ a ∉ g.list ∧ H a = some u
  dn : d ≠ pl ∧ d ∉ ls
section
variable {CB CD CH : Addr} {K : PySem.W.Frag} {Ha H0 : Hp} {x d a pl : Addr} {ls : List Addr} {pss : List (List Addr)} {plans : List (List Deed)} {most : Nat} {ns : List Int} {H H' : Hp} {g g' : HallG} {s : HallM}
theorem Day.same (D : Day CB CD CH K Ha H0 x d a pl ls pss plans most ns H g s) (e : Same H H') : Day CB CD CH K Ha H0 x d a pl ls pss plans most ns H' g s :=
  ⟨D.gh, D.hall.same e, D.fine, D.tm, D.pls, D.dice.same e, e.seq D.seq, D.seq0, D.dr.mono (F := []) (Off.of_same e) (by simp) (Tu.same e), D.ap, fun u hu => ⟨(D.apa u hu).1, (D.apa u hu).2.1, e _ _ (D.apa u hu).2.2⟩, D.dn⟩
theorem Day.dr1 (D : Day CB CD CH K Ha H0 x d a pl ls pss plans most ns H g s) (D' : Dice H' d a) (o : ∀ b, b ≠ d → H' b = H b) : Day CB CD CH K Ha H0 x d a pl ls pss plans most ns H' g s := by
  have b : But d H H' := fun c u n e => by rw [o c n]; exact e
  have tu := D.dice.tu b
  have nd : ∀ y ∈ g.list, y ∉ [d] := fun y hy h => D.ap d List.mem_cons_self (by rw [← List.mem_singleton.mp h]; exact hy)
  refine ⟨D.gh, D.hall.off (F := [d]) (Off.but' b) nd tu, D.fine, D.tm, D.pls, D', D.dice.seq b D.seq, D.seq0, D.dr.mono (F := [d]) (Off.but' b) (fun y hy h => ?_) tu, D.ap, fun u hu => ⟨(D.apa u hu).1, (D.apa u hu).2.1, b _ _ (D.apa u hu).1 (D.apa u hu).2.2⟩, D.dn⟩
  rw [List.mem_singleton.mp h] at hy
  rcases List.mem_cons.mp hy with e | e
  · exact D.dn.1 e
  · exact D.dn.2 e
theorem Day.weave (D : Day CB CD CH K Ha H0 x d a pl ls pss plans most ns H g s) {row : List Nat} (hr : ∀ i ∈ row, i < s.many) (h : HallAt CB CD CH H' g' (s.weave row)) (G : HGrow H g g') (O : Off g.list H H') : Day CB CD CH K Ha H0 x d a pl ls pss plans most ns H' g' (s.weave row) := by
  have tu := Tu.off O D.hall.noTup
  have trk : ∀ y ∈ d :: pl :: ls, ∃ u, H y = some u := fun y hy => by
    rcases List.mem_cons.mp hy with rfl | hy
    · obtain ⟨_, _, _, h⟩ := D.dice
      exact ⟨_, h⟩
    rcases List.mem_cons.mp hy with rfl | hy
    · exact ⟨_, D.dr.hpl⟩
    · obtain ⟨i, hi, ei⟩ := List.mem_iff_getElem.mp hy
      obtain ⟨_, _, h⟩ := Paired.get2 D.dr.hls (show ls[i]? = some y by rw [List.getElem?_eq_getElem hi, ei])
      exact ⟨_, h⟩
  refine ⟨G.1.trans D.gh, h, D.fine.weave hr, D.tm.weave D.fine hr, (weave_plans _ _).trans D.pls, ?_, SqL.off D.seq0 D.seq O (fun u hu => (D.apa u hu).2.1), D.seq0, D.dr.mono (F := g.list) O (fun y hy => D.ap y (List.mem_cons_of_mem _ hy)) tu, fun y hy mm => ?_, fun u hu => ?_, D.dn⟩
  · obtain ⟨n, k, q, e⟩ := D.dice
    exact ⟨n, k, q, O _ _ (D.ap d List.mem_cons_self) e⟩
  · rcases G.2 y mm with h | h
    · exact D.ap y hy h
    · obtain ⟨u, e⟩ := trk y hy
      rw [e] at h
      cases h
  · obtain ⟨h1, h2, h3⟩ := D.apa u hu
    refine ⟨h1, fun mm => ?_, O _ _ h2 h3⟩
    rcases G.2 a mm with h | h
    · exact h2 h
    · rw [h3] at h
      cases h
end
theorem lens_eq {H : Hp} : ∀ {pss : List (List Addr)} {plans : List (List Deed)}, Paired (fun ps plan => PlanAt H ps plan) pss plans → (pss.map fun p => (p.length : Int)) = plans.map fun p => (p.length : Int)
  | _, _, .nil => rfl
  | _, _, .cons h t => by
    rw [List.map_cons, List.map_cons, lens_eq t, Paired.len h]
end Sd

/-! several halls side by side -/
namespace Sd
open PySem L2
structure Halls (CB CD CH : Addr) (H0 H : Hp) (gs : List HallG) (ss : List HallM) : Prop where
  st : Same H0 H
  at_ : Paired (HallAt CB CD CH H) gs ss
  fine : ∀ s ∈ ss, Fine s
  free : ∀ g ∈ gs, ∀ y ∈ g.list, H0 y = none
  sep : ∀ (j k : Nat) (g g' : HallG), j ≠ k → gs[j]? = some g → gs[k]? = some g' → ∀ y ∈ g.list, y ∉ g'.list
section
variable {CB CD CH : Addr} {H0 H H' : Hp} {gs : List HallG} {ss : List HallM} {g g' : HallG} {s s' : HallM}
theorem Halls.nil (H : Hp) : Halls CB CD CH H H [] [] := ⟨Same.refl _, .nil, (fun _ h => nomatch h), (fun _ h => nomatch h), fun j k g g' _ h => by rw [List.getElem?_nil] at h; cases h⟩
theorem Halls.same (h : Halls CB CD CH H0 H gs ss) (e : Same H H') : Halls CB CD CH H0 H' gs ss :=
  ⟨h.st.trans e, Paired.mapM h.at_ fun _ _ _ a => a.same e, h.fine, h.free, h.sep⟩
/-- an object of the law's own changes -/
theorem Halls.but (h : Halls CB CD CH H0 H gs ss) {D : Addr} (hD : H0 D = none) (n : ∀ g ∈ gs, D ∉ g.list) (o : But D H H') (t : Tu H H') : Halls CB CD CH H0 H' gs ss :=
  ⟨fun y u e => o _ _ (ne_of_none e hD) (h.st _ _ e), Paired.mapM h.at_ fun g hg _ a => a.off (F := [D]) (Off.but' o) (fun y hy mm => n g hg (by rw [← List.mem_singleton.mp mm]; exact hy)) t, h.fine, h.free, h.sep⟩
theorem Halls.tracked (h : Halls CB CD CH H0 H gs ss) : ∀ g ∈ gs, ∀ y ∈ g.list, ∃ o, H y = some o := fun g hg y hy => by
  obtain ⟨j, hj⟩ := List.getElem?_of_mem hg
  obtain ⟨s, _, a⟩ := Paired.get2 h.at_ hj
  exact a.tracked y hy
theorem Halls.add (h : Halls CB CD CH H0 H gs ss) (e : Same H H') (a : HallAt CB CD CH H' g s) (f : Fine s) (gf : ∀ y ∈ g.list, H y = none) : Halls CB CD CH H0 H' (gs ++ [g]) (ss ++ [s]) := by
  have h2 := h.same e
  have old : ∀ {j : Nat} {x : HallG}, (gs ++ [g])[j]? = some x → (j < gs.length ∧ gs[j]? = some x) ∨ (j = gs.length ∧ x = g) := fun {j x} hx => by
    rcases Nat.lt_trichotomy j gs.length with c | c | c
    · rw [List.getElem?_append_left c] at hx
      exact .inl ⟨c, hx⟩
    · subst c
      rw [List.getElem?_append_right (Nat.le_refl _), Nat.sub_self] at hx
      cases hx
      exact .inr ⟨rfl, rfl⟩
    · rw [List.getElem?_eq_none (by rw [List.length_append]; exact c)] at hx
      cases hx
  refine ⟨h2.st, Paired.app h2.at_ a, fun x hx => ?_, fun x hx y hy => ?_, fun j k x z n hx hz y hy hy2 => ?_⟩
  · rcases List.mem_append.mp hx with hx | hx
    · exact h.fine x hx
    · rw [List.mem_singleton.mp hx]
      exact f
  · rcases List.mem_append.mp hx with hx | hx
    · exact h.free x hx y hy
    · rw [List.mem_singleton.mp hx] at hy
      exact h.st.free (gf y hy)
  · rcases old hx with ⟨c1, e1⟩ | ⟨c1, e1⟩
    · rcases old hz with ⟨c2, e2⟩ | ⟨c2, e2⟩
      · exact h.sep j k x z n e1 e2 y hy hy2
      · obtain ⟨o, ho⟩ := h.tracked x (List.mem_of_getElem? e1) y hy
        rw [gf y (by rw [← e2]; exact hy2)] at ho
        cases ho
    · rcases old hz with ⟨c2, e2⟩ | ⟨c2, e2⟩
      · obtain ⟨o, ho⟩ := h.tracked z (List.mem_of_getElem? e2) y hy2
        rw [gf y (by rw [← e1]; exact hy)] at ho
        cases ho
      · omega
theorem Paired.setAt2 {α β : Type} {R R' : α → β → Prop} : ∀ {xs : List α} {ys : List β} (k : Nat) {x : α} {y : β}, Paired R xs ys → (∀ (j : Nat) (a : α) (b : β), j ≠ k → xs[j]? = some a → R a b → R' a b) → R' x y → Paired R' (xs.set k x) (ys.set k y)
  | _, _, _, _, _, .nil, _, _ => .nil
  | _, _, 0, _, _, .cons r t, h, h1 => .cons h1 (by
      have : ∀ {xs : List α} {ys : List β}, Paired R xs ys → (∀ (j : Nat) (a : α) (b : β), xs[j]? = some a → R a b → R' a b) → Paired R' xs ys := by
        intro xs ys p
        induction p with
        | nil => intro _; exact .nil
        | cons r t ih => intro g; exact .cons (g 0 _ _ rfl r) (ih fun j a b e => g (j + 1) a b e)
      exact this t fun j a b e => h (j + 1) a b (by omega) e)
  | _, _, k + 1, _, _, .cons r t, h, h1 => .cons (h 0 _ _ (by omega) rfl r) (Paired.setAt2 k t (fun j a b n e => h (j + 1) a b (by omega) e) h1)
theorem Halls.step (h : Halls CB CD CH H0 H gs ss) {k : Nat} (hg : gs[k]? = some g) (hs : ss[k]? = some s) (a : HallAt CB CD CH H' g' s') (f : Fine s') (G : HGrow H g g') (O : Off g.list H H') : Halls CB CD CH H0 H' (gs.set k g') (ss.set k s') := by
  obtain ⟨s1, hs1, a1⟩ := Paired.get2 h.at_ hg
  have tu := Tu.off O a1.noTup
  have hk := (List.getElem?_eq_some_iff.mp hg).1
  have gm := List.mem_of_getElem? hg
  have new : ∀ y ∈ g'.list, y ∈ g.list ∨ H y = none := G.2
  have old : ∀ {j : Nat} {x : HallG}, (gs.set k g')[j]? = some x → (j = k ∧ x = g') ∨ (j ≠ k ∧ gs[j]? = some x) := fun {j x} e => by
    by_cases c : k = j
    · subst c
      rw [List.getElem?_set_self hk] at e
      cases e
      exact .inl ⟨rfl, rfl⟩
    · rw [List.getElem?_set_ne c] at e
      exact .inr ⟨Ne.symm c, e⟩
  have ap : ∀ {j : Nat} {x : HallG}, j ≠ k → gs[j]? = some x → ∀ y ∈ x.list, y ∉ g'.list := fun {j x} n e y hy mm => by
    rcases new y mm with m | m
    · exact h.sep j k x g n e hg y hy m
    · obtain ⟨o, ho⟩ := h.tracked x (List.mem_of_getElem? e) y hy
      rw [m] at ho
      cases ho
  refine ⟨fun y u e => O _ _ (fun mm => ?_) (h.st _ _ e), Paired.setAt2 k h.at_ (fun j x z n e r => r.off (F := g.list) O (fun y hy => h.sep j k x g n e hg y hy) tu) a, fun x hx => ?_, fun x hx y hy => ?_, fun i j x z n hx hz y hy hy2 => ?_⟩
  · rw [h.free g gm y mm] at e
    cases e
  · rcases List.mem_or_eq_of_mem_set hx with e | e
    · exact h.fine x e
    · rw [e]
      exact f
  · rcases List.mem_or_eq_of_mem_set hx with e | e
    · exact h.free x e y hy
    · rw [e] at hy
      rcases new y hy with m | m
      · exact h.free g gm y m
      · exact h.st.free m
  · rcases old hx with ⟨c1, e1⟩ | ⟨c1, e1⟩
    · rcases old hz with ⟨c2, e2⟩ | ⟨c2, e2⟩
      · omega
      · exact ap c2 e2 y hy2 (by rw [← e1]; exact hy)
    · rcases old hz with ⟨c2, e2⟩ | ⟨c2, e2⟩
      · exact ap c1 e1 y hy (by rw [← e2]; exact hy2)
      · exact h.sep i j x z n e1 e2 y hy hy2
theorem HGrow.nin (G : HGrow H g g') {D : Addr} {o : HO} (hD : H D = some o) (n : D ∉ g.list) : D ∉ g'.list := fun mm => by
  rcases G.2 D mm with m | m
  · exact n m
  · rw [hD] at m
    cases m
end
/-! touches as data -/
def touchD (t : Touch) : PyData := .tuple [.int t.hand, .str (if t.put then "put" else "take"), .int t.place, .int t.num]
theorem TouchAt.dp {K : PySem.W.Frag} {H : Hp} {v : V} {t : Touch} (h : TouchAt H v t) : Dp K H v (touchD t) := by
  obtain ⟨p, rfl, hp⟩ := h
  exact .tup (SqT.of hp) (.cons (.int _) (.cons (.str _) (.cons (.int _) (.cons (.int _) .nil))))
theorem dp_touches {K : PySem.W.Frag} {H : Hp} : ∀ {vs : List V} {ts : List Touch}, Paired (TouchAt H) vs ts → DpAll K H vs (ts.map touchD)
  | _, _, .nil => .nil
  | _, _, .cons h hs => .cons h.dp (dp_touches hs)
def touchesD (ts : List Touch) : PyData := .list (ts.map touchD)
theorem lay_touches : ∀ ts : List Touch, PyData.canLayAll0 (ts.map touchD) = true
  | [] => rfl
  | t :: ts => by
    show (PyData.canLay0 (touchD t) && PyData.canLayAll0 (ts.map touchD)) = true
    rw [lay_touches ts, Bool.and_true]
    unfold touchD
    cases t.put <;> (simp only [PyData.canLayAll0, PyData.canLay0]; decide +kernel)
theorem depth_touches : ∀ ts : List Touch, PyData.depthAll (ts.map touchD) ≤ 1
  | [] => Nat.zero_le _
  | t :: ts => by
    have h : PyData.depthAll ((t :: ts).map touchD) = max (PyData.depth (touchD t)) (PyData.depthAll (ts.map touchD)) := rfl
    have h2 : PyData.depth (touchD t) = 1 := rfl
    have := depth_touches ts
    omega
theorem touchesD_shaped (ts : List Touch) : SeqAt.shaped (touchesD ts) = true := by
  have h1 : PyData.canLay0 (touchesD ts) = true := lay_touches ts
  have h2 : PyData.depth (touchesD ts) = PyData.depthAll (ts.map touchD) + 1 := rfl
  have := depth_touches ts
  unfold SeqAt.shaped
  rw [h1, Bool.true_and]
  exact decide_eq_true (by omega)
theorem touchesD_lay (ts : List Touch) : PyData.canLay0 (touchesD ts) = true := lay_touches ts
/-- a weaving in parts -/
theorem weave_parts (s : HallM) (a b : List Nat) : s.weave (a ++ b) = (s.weave a).weave b := by
  unfold HallM.weave
  exact List.foldl_append
theorem DrawnP.base {H0 H1 H : Hp} {pl : Addr} {ls : List Addr} {pss : List (List Addr)} {plans : List (List Deed)} {most : Nat} (R : DrawnP H1 H pl ls pss plans most) (s : Same H0 H1) : DrawnP H0 H pl ls pss plans most :=
  ⟨R.hpl, R.hls, R.hps, s.free R.fpl, fun l hl => s.free (R.fls l hl), R.npl, R.nls, R.short, R.ok, R.take⟩
theorem map_set_same {α β : Type} {f : α → β} {xs : List α} {k : Nat} {x x' : α} (h : xs[k]? = some x) (e : f x' = f x) : (xs.set k x').map f = xs.map f := by
  refine List.ext_getElem? fun j => ?_
  rw [List.getElem?_map, List.getElem?_map]
  by_cases c : k = j
  · subst c
    rw [List.getElem?_set_self (List.getElem?_eq_some_iff.mp h).1, h]
    exact congrArg some e
  · rw [List.getElem?_set_ne c]
theorem take_parts {α : Type} (xs : List α) (a b : Nat) : xs.take a ++ (xs.drop a).take b = xs.take (a + b) := (List.take_add).symm
/-- a hall woven so far -/
def wov (Ps : List (List (List Deed))) (Rs : List (List Nat)) (k n : Nat) : HallM := (HallM.new (Ps.getD k [])).weave ((Rs.getD k []).take n)
structure Turn2 (CB CD CH : Addr) (H0 H : Hp) (hl : Addr) (xs : List Addr) (Ps : List (List (List Deed))) (Rs : List (List Nat)) (T : Nat → Nat) (gs : List HallG) : Prop where
  halls : Halls CB CD CH H0 H gs [wov Ps Rs 0 (T 0), wov Ps Rs 1 (T 1)]
  lst : H hl = some (.lst (xs.map V.ref))
  has : gs.map (·.ha) = xs
  out : ∀ g ∈ gs, hl ∉ g.list
section
variable {CB CD CH : Addr} {H0 H H' : Hp} {hl : Addr} {xs : List Addr} {Ps : List (List (List Deed))} {Rs : List (List Nat)} {T T' : Nat → Nat} {gs : List HallG}
theorem Turn2.same (h : Turn2 CB CD CH H0 H hl xs Ps Rs T gs) (e : Same H H') : Turn2 CB CD CH H0 H' hl xs Ps Rs T gs := ⟨h.halls.same e, e _ _ h.lst, h.has, h.out⟩
theorem Turn2.get (h : Turn2 CB CD CH H0 H hl xs Ps Rs T gs) {k : Nat} (hk : k < 2) : ∃ g dx, gs[k]? = some g ∧ (xs.map V.ref)[k]? = some (.ref g.ha) ∧ HallAt CB CD CH H g (wov Ps Rs k (T k)) ∧ Fine (wov Ps Rs k (T k)) ∧
    H g.ha = some (.ins CH dx (gfs (.ref g.bx) (.ref g.hl) (.ref g.rc) (.ref g.mr) (.ref g.tc))) := by
  have es : [wov Ps Rs 0 (T 0), wov Ps Rs 1 (T 1)][k]? = some (wov Ps Rs k (T k)) := by
    rcases (by omega : k = 0 ∨ k = 1) with rfl | rfl <;> rfl
  obtain ⟨g, hg, a⟩ := Paired.get h.halls.at_ es
  obtain ⟨dx, hob⟩ := a.ob
  refine ⟨g, dx, hg, ?_, a, h.halls.fine _ (List.mem_of_getElem? es), hob⟩
  rw [← h.has, List.getElem?_map, List.getElem?_map, hg]
  rfl
theorem Turn2.step (h : Turn2 CB CD CH H0 H hl xs Ps Rs T gs) {k : Nat} (hk : k < 2) {g g' : HallG} (hg : gs[k]? = some g) (a : HallAt CB CD CH H' g' (wov Ps Rs k (T' k))) (f : Fine (wov Ps Rs k (T' k))) (G : HGrow H g g') (O : Off g.list H H') (hT : ∀ j, j ≠ k → T' j = T j) :
    Turn2 CB CD CH H0 H' hl xs Ps Rs T' (gs.set k g') := by
  have es : [wov Ps Rs 0 (T 0), wov Ps Rs 1 (T 1)][k]? = some (wov Ps Rs k (T k)) := by
    rcases (by omega : k = 0 ∨ k = 1) with rfl | rfl <;> rfl
  have e2 : [wov Ps Rs 0 (T 0), wov Ps Rs 1 (T 1)].set k (wov Ps Rs k (T' k)) = [wov Ps Rs 0 (T' 0), wov Ps Rs 1 (T' 1)] := by
    rcases (by omega : k = 0 ∨ k = 1) with rfl | rfl
    · rw [hT 1 (by decide)]
      rfl
    · rw [hT 0 (by decide)]
      rfl
  have gm := List.mem_of_getElem? hg
  refine ⟨?_, O _ _ (h.out g gm) h.lst, ?_, fun x hx => ?_⟩
  · rw [← e2]
    exact h.halls.step hg es a f G O
  · rw [map_set_same (f := (·.ha)) hg G.1, h.has]
  · rcases List.mem_or_eq_of_mem_set hx with e | e
    · exact h.out x e
    · rw [e]
      exact G.nin h.lst (h.out g gm)
theorem Turn2.cong (h : Turn2 CB CD CH H0 H hl xs Ps Rs T gs) (e : ∀ j, j < 2 → T' j = T j) : Turn2 CB CD CH H0 H hl xs Ps Rs T' gs := by
  refine ⟨?_, h.lst, h.has, h.out⟩
  rw [e 0 (by decide), e 1 (by decide)]
  exact h.halls
end
end Sd

/-! dicts whose keys are tuples of tuples of ints -/
namespace Sd
open PySem PySem.Spec PyProof.Rows L2
mutual
def hashable : PyData → Bool
  | .int _ => true
  | .tuple xs => hashableAll xs
  | _ => false
def hashableAll : List PyData → Bool
  | [] => true
  | x :: xs => hashable x && hashableAll xs
end
mutual
def hashD : PyData → Int
  | .int i => hashInt i
  | .tuple xs => reduceHash (Builtin.Tuple.tupleHashOf (hashDs xs))
  | _ => 0
def hashDs : List PyData → List Int
  | [] => []
  | x :: xs => hashD x :: hashDs xs
end
mutual
def drawsD : PyData → Nat
  | .tuple xs => drawsDs xs + 1
  | _ => 1
def drawsDs : List PyData → Nat
  | [] => 0
  | x :: xs => drawsD x + drawsDs xs
end
theorem hashDs_app : ∀ (xs : List PyData) (x : PyData), hashDs (xs ++ [x]) = hashDs xs ++ [hashD x]
  | [], x => rfl
  | y :: ys, x => by
    show hashD y :: hashDs (ys ++ [x]) = hashD y :: (hashDs ys ++ [hashD x])
    rw [hashDs_app ys x]
theorem drawsDs_app : ∀ (xs : List PyData) (x : PyData), drawsDs (xs ++ [x]) = drawsDs xs + drawsD x
  | [], x => by show drawsD x + 0 = 0 + drawsD x; omega
  | y :: ys, x => by
    show drawsD y + drawsDs (ys ++ [x]) = drawsD y + drawsDs ys + drawsD x
    rw [drawsDs_app ys x]
    omega
def HashAt (prog : Program) (w : World) (A : Around) (d : PyData) : Prop := ∀ (E : Value → Shared → Prop) (s : Shared) (v : Value) (as : List Addr) (Q : Int → Shared → Prop), Reads s.heap v d as → Q (hashD d) { s with toks := s.toks + drawsD d } → wpAny (model prog w) A (PySem.pyHash v) Q E s
def QuietAt (prog : Program) (w : World) (A : Around) (n : Nat) (d : PyData) : Prop := ∀ (E : Value → Shared → Prop) (s : Shared) (v : Value) (as : List Addr) (Q : Bool → Shared → Prop), Reads s.heap v d as → Q true s → wpAny (model prog w) A (eqIsQuiet n v) Q E s
theorem hash_tup {prog : Program} {w : World} {A : Around} {xs : List PyData} (hu : A.units < cLine) (ih : ∀ x ∈ xs, HashAt prog w A.in1 x) : HashAt prog w A (.tuple xs) := by
  intro E s v as Q r h
  cases r with
  | @tuple a o items n _ _ ho hc hd hr =>
    have hT : s.TypeIs (.ref a) "tuple" := ⟨o, ho, hc⟩
    unfold pyHash
    first | unfold pyHashByItsType | skip
    first | refine wpAny_bind (wpAny_cRoomFor_or (.inr hu) ?_) | skip
    refine wpAny_bind (wpAny_specialOf hT F.slot_tuple_hash.lookup ?_)
    show wpAny _ _ (if (some (Value.builtin "tuple.__hash__") == some Value.none) = true then _ else _) Q E s
    rw [if_neg (by rw [beq_builtin_none]; exact Bool.false_ne_true)]
    refine wpAny_bind (wpAny_specialOf hT F.slot_tuple_hash.lookup ?_)
    show wpAny _ _ (callSpecialIfBoundUnlessNone? (.ref a) "__hash__" _ >>= _) Q E s
    refine wpAny_bind (wpAny_callSpecialIfBoundUnlessNone?_slot hT F.slot_tuple_hash (wpAny_call_entry F.slot_tuple_hash hT F.entry_tuple_hash ?_ (F.args_tuple_hash_1 _)))
    show wpAny _ _ (Builtin.Tuple.tupleItemsOf (.ref a) >>= _) _ _ s
    refine wpAny_bind (wpAny_tupleItemsOf ho hd ?_)
    refine wpAny_bind ?_
    rw [← Array.forIn_toList]
    refine wpAny_forIn_list _
      (fun rest (b : Array Int) s' => ∃ done left as', xs = done ++ left ∧ ReadsAll s.heap rest left as' ∧ b.toList = hashDs done ∧ s' = { s with toks := s.toks + drawsDs done })
      _ ?_ ?_ _ _ ⟨[], xs, _, rfl, hr, rfl, rfl⟩
    · rintro x rest b s' ⟨done, left, as', rfl, hl, hb, rfl⟩
      cases hl with
      | @cons _ _ d ds as1 bs h1 hl' =>
        refine wpAny_bind (ih d (by simp) _ _ _ _ _ h1 ?_)
        have e1 : (b.push (hashD d)).toList = hashDs (done ++ [d]) := by rw [hashDs_app, ← hb]; simp
        have e2 : s.toks + drawsDs done + drawsD d = s.toks + drawsDs (done ++ [d]) := by rw [drawsDs_app]; omega
        first
          | exact wpAny_pure ⟨done ++ [d], ds, _, by simp, hl', e1, by simp [e2]⟩
          | exact wpAny_bind (wpAny_pure (wpAny_pure ⟨done ++ [d], ds, _, by simp, hl', e1, by simp [e2]⟩))
    · rintro b s' ⟨done, left, as', rfl, hl, hb, rfl⟩
      cases hl
      rw [List.append_nil] at h
      show wpAny _ _ (retInt (Builtin.Tuple.tupleHashOf b.toList)) _ _ _
      rw [hb]
      refine wpAny_ret_mkInt ?_
      show wpAny _ _ (if (decide (-(2 : Int) ^ 63 ≤ Builtin.Tuple.tupleHashOf (hashDs done)) && decide (Builtin.Tuple.tupleHashOf (hashDs done) < 2 ^ 63)) = true then _ else _) Q E _
      have h : Q (reduceHash (Builtin.Tuple.tupleHashOf (hashDs done))) { s with toks := s.toks + (drawsDs done + 1) } := h
      unfold reduceHash at h
      by_cases hr : (decide (-(2 : Int) ^ 63 ≤ Builtin.Tuple.tupleHashOf (hashDs done)) && decide (Builtin.Tuple.tupleHashOf (hashDs done) < 2 ^ 63)) = true
      · rw [if_pos hr]
        rw [if_pos hr] at h
        exact wpAny_pure (by simpa [Nat.add_assoc] using h)
      · rw [if_neg hr]
        rw [if_neg hr] at h
        exact wpAny_bind (wpAny_rule (wpAny_pure (by simpa [Nat.add_assoc] using h)))
theorem quiet_tup {prog : Program} {w : World} {A : Around} {n : Nat} {xs : List PyData} (ih : ∀ x ∈ xs, QuietAt prog w A n x) : QuietAt prog w A (n + 1) (.tuple xs) := by
  intro E s v as Q r h
  cases r with
  | @tuple a o items m _ _ ho hc hd hr =>
    have hT : s.TypeIs (.ref a) "tuple" := ⟨o, ho, hc⟩
    unfold eqIsQuiet
    refine wpAny_bind (wpAny_specialOf hT F.slot_tuple_eq.lookup ?_)
    show wpAny _ _ (isInstance (.ref a) (.type "tuple") >>= _) _ _ s
    refine wpAny_bind (wpAny_isInstance hT isSubtype_tuple_tuple ?_)
    simp only [Bool.not_true, Bool.false_eq_true, if_false]
    refine wpAny_bind (wpAny_seqItems ho hd ?_)
    refine wpAny_bind ?_
    show wpAny _ _ (forIn items _ _) _ _ s
    rw [← Array.forIn_toList]
    refine wpAny_forIn_list _ (fun rest r s' => r.1 = none ∧ s' = s ∧ ∃ left as', (∀ x ∈ left, x ∈ xs) ∧ ReadsAll s.heap rest left as') _ ?_ ?_ _ _ ⟨rfl, rfl, xs, _, fun _ h => h, hr⟩
    · rintro v rest r s' ⟨hr, rfl, left, as', hsub, hl⟩
      cases hl with
      | @cons _ _ d ds as1 bs h1 hl' =>
        refine wpAny_bind (ih d (hsub d List.mem_cons_self) _ _ _ _ _ h1 ?_)
        simp only [Bool.not_true, Bool.false_eq_true, if_false]
        exact wpAny_pure ⟨rfl, rfl, ds, _, fun x hx => hsub x (List.mem_cons_of_mem _ hx), hl'⟩
    · rintro ⟨r1, r2⟩ s' ⟨hr1, rfl, _⟩
      have hr2 : r1 = none := hr1
      subst hr2
      exact wpAny_pure h
mutual
theorem hash_data {prog : Program} {w : World} : ∀ (d : PyData) (A : Around), hashable d = true → A.units + d.depth < cLine → HashAt prog w A d
  | .int i, A, _, _ => fun E s v as Q r h => by cases r; exact wpAny_pyHash_int h
  | .tuple xs, A, hh, hu => by
    have e : (PyData.tuple xs).depth = PyData.depthAll xs + 1 := rfl
    rw [e] at hu
    refine hash_tup (by omega) (hash_dataAll xs A.in1 hh ?_)
    show A.units + 1 + _ < _
    omega
  | .none, _, hh, _ => nomatch hh
  | .bool _, _, hh, _ => nomatch hh
  | .str _, _, hh, _ => nomatch hh
  | .list _, _, hh, _ => nomatch hh
  | .dict _, _, hh, _ => nomatch hh
theorem hash_dataAll {prog : Program} {w : World} : ∀ (xs : List PyData) (A : Around), hashableAll xs = true → A.units + PyData.depthAll xs < cLine → ∀ x ∈ xs, HashAt prog w A x
  | [], _, _, _ => fun x hx => nomatch hx
  | y :: ys, A, hh, hu => fun x hx => by
    have hh' : (hashable y && hashableAll ys) = true := hh
    rw [Bool.and_eq_true] at hh'
    have e : PyData.depthAll (y :: ys) = max y.depth (PyData.depthAll ys) := rfl
    rw [e] at hu
    rcases List.mem_cons.mp hx with e1 | hx
    · rw [e1]
      exact hash_data y A hh'.1 (by omega)
    · exact hash_dataAll ys A hh'.2 (by omega) x hx
end
mutual
theorem quiet_data {prog : Program} {w : World} : ∀ (d : PyData) (A : Around) (n : Nat), hashable d = true → d.depth ≤ n → QuietAt prog w A n d
  | .int i, A, n, _, _ => fun E s v as Q r h => by
    cases r
    rw [eqIsQuiet_byValue n (by rfl)]
    exact wpAny_pure h
  | .tuple xs, A, n, hh, hn => by
    have e : (PyData.tuple xs).depth = PyData.depthAll xs + 1 := rfl
    rw [e] at hn
    cases n with
    | zero => omega
    | succ n => exact quiet_tup (quiet_dataAll xs A n hh (by omega))
  | .none, _, _, hh, _ => nomatch hh
  | .bool _, _, _, hh, _ => nomatch hh
  | .str _, _, _, hh, _ => nomatch hh
  | .list _, _, _, hh, _ => nomatch hh
  | .dict _, _, _, hh, _ => nomatch hh
theorem quiet_dataAll {prog : Program} {w : World} : ∀ (xs : List PyData) (A : Around) (n : Nat), hashableAll xs = true → PyData.depthAll xs ≤ n → ∀ x ∈ xs, QuietAt prog w A n x
  | [], _, _, _, _ => fun x hx => nomatch hx
  | y :: ys, A, n, hh, hu => fun x hx => by
    have hh' : (hashable y && hashableAll ys) = true := hh
    rw [Bool.and_eq_true] at hh'
    have e : PyData.depthAll (y :: ys) = max y.depth (PyData.depthAll ys) := rfl
    rw [e] at hu
    rcases List.mem_cons.mp hx with e1 | hx
    · rw [e1]
      exact quiet_data y A n hh'.1 (by omega)
    · exact quiet_dataAll ys A n hh'.2 (by omega) x hx
end
mutual
theorem reads_but {h h' : Heap} {d : Addr} {o : Obj} {es : Array DictEntry} {ep : Nat} (ho : h.get? d = some o) (hd : o.data = .dict es ep) (hs : Heap.SameBut d h h') : ∀ (x : PyData) (v : Value) (as : List Addr), hashable x = true → Reads h v x as → Reads h' v x as
  | .int i, _, _, _, r => by cases r; exact .int _ _
  | .tuple xs, _, _, hh, r => by
    cases r with
    | @tuple a o' items n _ _ h1 h2 h3 h4 =>
      have hne : a ≠ d := by
        rintro rfl
        rw [ho] at h1
        cases h1
        rw [hd] at h3
        exact nomatch h3
      exact .tuple ((hs.2 a hne).trans h1) h2 h3 (readsAll_but ho hd hs xs _ _ hh h4)
  | .none, _, _, hh, _ => nomatch hh
  | .bool _, _, _, hh, _ => nomatch hh
  | .str _, _, _, hh, _ => nomatch hh
  | .list _, _, _, hh, _ => nomatch hh
  | .dict _, _, _, hh, _ => nomatch hh
theorem readsAll_but {h h' : Heap} {d : Addr} {o : Obj} {es : Array DictEntry} {ep : Nat} (ho : h.get? d = some o) (hd : o.data = .dict es ep) (hs : Heap.SameBut d h h') : ∀ (xs : List PyData) (vs : List Value) (as : List Addr), hashableAll xs = true → ReadsAll h vs xs as → ReadsAll h' vs xs as
  | [], _, _, _, r => by cases r; exact .nil
  | y :: ys, _, _, hh, r => by
    have hh' : (hashable y && hashableAll ys) = true := hh
    rw [Bool.and_eq_true] at hh'
    cases r with
    | cons h1 h2 => exact .cons (reads_but ho hd hs y _ _ hh'.1 h1) (readsAll_but ho hd hs ys _ _ hh'.2 h2)
end
/-! ### the keys of what was found to lead nowhere -/
structure DKey where
  left : List Int
  st : St5
  deriving DecidableEq
def DKey.data (k : DKey) : PyData := .tuple [.tuple (k.left.map PyData.int), .tuple [.int k.st.ones, .tuple (k.st.cells.map PyData.int), .int k.st.added, .int k.st.top, .tuple (k.st.line.map PyData.int)]]
theorem hashable_ints : ∀ ns : List Int, hashableAll (ns.map PyData.int) = true
  | [] => rfl
  | _ :: r => hashable_ints r
theorem DKey.hashable (k : DKey) : Sd.hashable k.data = true := by
  show (hashableAll (k.left.map PyData.int) && (((true && (hashableAll (k.st.cells.map PyData.int) && (true && (true && (hashableAll (k.st.line.map PyData.int) && true)))))) && true)) = true
  rw [hashable_ints, hashable_ints, hashable_ints]
  rfl
theorem DKey.lay (k : DKey) : PyData.canLay0 k.data = true := by
  show (PyData.canLayAll0 (k.left.map PyData.int) && (((true && (PyData.canLayAll0 (k.st.cells.map PyData.int) && (true && (true && (PyData.canLayAll0 (k.st.line.map PyData.int) && true)))))) && true)) = true
  rw [lay_ints, lay_ints, lay_ints]
  rfl
theorem DKey.depth (k : DKey) : PyData.depth k.data = 3 := by
  have h : PyData.depth k.data = max (PyData.depthAll (k.left.map PyData.int) + 1) (max (max 0 (max (PyData.depthAll (k.st.cells.map PyData.int) + 1) (max 0 (max 0 (max (PyData.depthAll (k.st.line.map PyData.int) + 1) 0)))) + 1) 0) + 1 := rfl
  rw [h, depth_ints, depth_ints, depth_ints]
  rfl
theorem dints_inj {a b : List Int} (h : a.map PyData.int = b.map PyData.int) : a = b := by
  induction a generalizing b with
  | nil => cases b with
    | nil => rfl
    | cons y b => cases h
  | cons x a ih => cases b with
    | nil => cases h
    | cons y b =>
      rw [List.map_cons, List.map_cons] at h
      injection h with h1 h2
      injection h1 with h1
      rw [h1, ih h2]
theorem DKey.inj {a b : DKey} (h : a.data = b.data) : a = b := by
  obtain ⟨l, ⟨o, c, d, t, n⟩⟩ := a
  obtain ⟨l', ⟨o', c', d', t', n'⟩⟩ := b
  unfold DKey.data at h
  simp only [PyData.tuple.injEq, List.cons.injEq, PyData.int.injEq, and_true] at h
  obtain ⟨h1, h2, h3, h4, h5, h6⟩ := h
  rw [dints_inj h1, h2, dints_inj h3, h4, h5, dints_inj h6]
theorem eqv_tuple2 (a b : List Int) : PyData.eqv (.tuple (a.map PyData.int)) (.tuple (b.map PyData.int)) = decide (a = b) := eqvAll_ints2 a b
theorem DKey.eqv (a b : DKey) : PyData.eqv a.data b.data = decide (a = b) := by
  obtain ⟨l, ⟨o, c, d, t, n⟩⟩ := a
  obtain ⟨l', ⟨o', c', d', t', n'⟩⟩ := b
  show (PyData.eqv (.tuple (l.map PyData.int)) (.tuple (l'.map PyData.int)) && (((o == o') && (PyData.eqv (.tuple (c.map PyData.int)) (.tuple (c'.map PyData.int)) && ((d == d') && ((t == t') && (PyData.eqv (.tuple (n.map PyData.int)) (.tuple (n'.map PyData.int)) && true))))) && true)) = _
  rw [eqv_tuple2, eqv_tuple2, eqv_tuple2, Bool.eq_iff_iff]
  simp only [Bool.and_eq_true, decide_eq_true_eq, beq_iff_eq, DKey.mk.injEq, St5.mk.injEq, and_true]
def deadKind (prog : Program) (w : World) : HeapKind prog w DKey where
  is := fun h k a => ∃ as, Reads h (.ref a) k.data as
  hash := fun k => hashD k.data
  draws := fun k => drawsD k.data
  room := fun A => A.units + 3 < cLine
  inj := fun ⟨_, hx⟩ ⟨_, hy⟩ => DKey.inj (SeqAt.Reads.unique _ _ _ _ _ (DKey.lay _) hx hy)
  keeps := fun ⟨as, r⟩ ho hd hs => ⟨as, reads_but ho hd hs _ _ _ (DKey.hashable _) r⟩
  pyHash := fun {A E s k a Q} hu ⟨as, r⟩ h => hash_data k.data A k.hashable (by rw [k.depth]; exact hu) E s _ as Q r h
  eqBool := fun {A E s x y a b Q} hu ⟨as, rx⟩ ⟨bs, ry⟩ h => by
    refine SeqAt.eqAt_reads x.data y.data A s _ _ as bs rx ry x.lay y.lay (by rw [x.depth, y.depth]; exact hu) prog w E Q ?_
    rw [DKey.eqv]
    exact h
  quiet := fun {A E s k a Q} ⟨as, r⟩ h => quiet_data k.data A 8 k.hashable (by rw [k.depth]; decide) E s _ as Q r h
/-- the dict, by its one object -/
def DeadO (P : Program) (w : World) (d : Addr) (xs : List (DKey × Addr × Value)) : HO := .ext fun h => (d == sysModules) = false ∧ ∃ o es ep, h.get? d = some o ∧ o.ExactDict ∧ o.data = .dict es ep ∧ es.toList = xs.map (entryOfKey (deadKind P w)) ∧ (xs.map (·.1)).Nodup
def DKeyAt (H : Hp) (k : DKey) (a : Addr) : Prop := ∃ (l : Addr) (v : V), H a = some (.tup [.ref l, v]) ∧ H l = some (.tup (k.left.map V.int)) ∧ k.st.At H v
theorem DKeyAt.tu {H H' : Hp} {k : DKey} {a : Addr} (h : DKeyAt H k a) (t : Tu H H') : DKeyAt H' k a := by
  obtain ⟨l, v, h1, h2, t1, pc, pl, rfl, h3, h4, h5⟩ := h
  exact ⟨l, _, t _ _ h1, t _ _ h2, t1, pc, pl, rfl, t _ _ h3, t _ _ h4, t _ _ h5⟩
def DeadAt (P : Program) (w : World) (H : Hp) (d : Addr) (ks : List DKey) : Prop := ∃ xs : List (DKey × Addr × Value), H d = some (DeadO P w d xs) ∧ ks = xs.map (·.1) ∧ ∀ x ∈ xs, DKeyAt H x.1 x.2.1
theorem DeadAt.off {P : Program} {w : World} {H H' : Hp} {d : Addr} {ks : List DKey} (h : DeadAt P w H d ks) (t : Tu H H') (e : ∀ o, H d = some o → H' d = some o) : DeadAt P w H' d ks := by
  obtain ⟨xs, h1, h2, h3⟩ := h
  exact ⟨xs, e _ h1, h2, fun x hx => (h3 x hx).tu t⟩
theorem DKeyAt.dp {K : PySem.W.Frag} {H : Hp} {k : DKey} {a : Addr} (h : DKeyAt H k a) : Dp K H (.ref a) k.data := by
  obtain ⟨l, v, h1, h2, t1, pc, pl, rfl, h3, h4, h5⟩ := h
  exact .tup (SqT.of h1) (.cons (.tup (SqT.of h2) (dInts_all _)) (.cons (.tup (SqT.of h3) (.cons (.int _) (.cons (.tup (SqT.of h4) (dInts_all _)) (.cons (.int _) (.cons (.int _) (.cons (.tup (SqT.of h5) (dInts_all _)) .nil)))))) .nil))
section
variable {X : Cx} {pos : Pos}
theorem DeadAt.real {pins : List (Addr × Obj)} {σ : L2.St} {H : Hp} {s : Shared} (I : Inv X pins σ H s) {d : Addr} {xs : List (DKey × Addr × Value)} (h1 : H d = some (DeadO X.prog X.w d xs)) (h3 : ∀ x ∈ xs, DKeyAt H x.1 x.2.1) : (d == sysModules) = false ∧ s.heap.DictOfH (deadKind X.prog X.w) d xs := by
  obtain ⟨⟨hd, o, es, ep, ho, hc, hdat, he, hn⟩, _, _⟩ := I.hok d _ h1
  exact ⟨hd, o, es, ep, ho, hc, hdat, he, fun x hx => Dp.reads I _ _ _ (h3 x hx).dp rfl, hn⟩
def rInDead (P : Program) (w : World) : R2 := fun x y H Q => ∃ (a d : Addr) (k : DKey) (ks : List DKey), x = .ref a ∧ y = .ref d ∧ DKeyAt H k a ∧ DeadAt P w H d ks ∧ Q (.bl (decide (k ∈ ks))) H
theorem op_inDead (hu : X.A.units + 5 < cLine) : OpR X (compareOp .In) (rInDead X.prog X.w) := by
  intro pins s σ H x y v u Q I rx ry h
  obtain ⟨a, d, k, ks, rfl, rfl, hk, ⟨xs, h1, rfl, h3⟩, q⟩ := h
  cases rx
  cases ry
  obtain ⟨hd, hm⟩ := DeadAt.real I h1 h3
  obtain ⟨as, rd⟩ := Dp.reads I _ _ _ hk.dp (rfl : RelV (.ref a) (.ref a))
  refine wpAny_in_heap (knd := deadKind X.prog X.w) (k := k) (xs := xs) (by show X.A.units + 1 + 3 < cLine; omega) ⟨as, rd⟩ hd hm ⟨.bl _, H, I.tok _, rfl, ?_⟩
  have e : (atKey xs k).isSome = decide (k ∈ xs.map (·.1)) := by
    unfold atKey
    rw [Option.isSome_map, Bool.eq_iff_iff, List.find?_isSome, decide_eq_true_eq, List.mem_map]
    exact ⟨fun ⟨x, h1, h2⟩ => ⟨x, h1, of_decide_eq_true h2⟩, fun ⟨x, h1, h2⟩ => ⟨x, h1, decide_eq_true h2⟩⟩
  rw [e]
  exact q
def rSetDead (P : Program) (w : World) : V → V → V → Hp → (Hp → Prop) → Prop := fun o i v H Q => ∃ (d a : Addr) (k : DKey) (ks : List DKey), o = .ref d ∧ i = .ref a ∧ v = .bl true ∧ DKeyAt H k a ∧ DeadAt P w H d ks ∧ ks.length < sizeLine ∧
  ∀ H' ks', But d H H' → Tu H H' → DeadAt P w H' d ks' → ks'.length ≤ ks.length + 1 → (∀ x ∈ ks', x ∈ ks ∨ x = k) → Q H'
theorem set_dead (hu : X.A.units + 5 < cLine) : PSet X (rSetDead X.prog X.w) := by
  intro pins s σ H o i v ov iv u Q I ro ri rv h
  obtain ⟨d, a, k, ks, rfl, rfl, rfl, hk, ⟨xs, h1, rfl, h3⟩, hz, q⟩ := h
  cases ro
  cases ri
  obtain ⟨hd, hm⟩ := DeadAt.real I h1 h3
  obtain ⟨as, rd⟩ := Dp.reads I _ _ _ hk.dp (rfl : RelV (.ref a) (.ref a))
  rw [List.length_map] at hz
  refine wpAny_setItem_heap (knd := deadKind X.prog X.w) (k := k) (xs := xs) (by show X.A.units + 1 + 3 < cLine; omega) ⟨as, rd⟩ hm (fun h' hm' hs' => ?_) (Nat.le_of_lt hz)
  obtain ⟨o, es, ep, ho, hc, hdat, he, hkeys, hn⟩ := hm'
  have tu : Tu H (upd H d (DeadO X.prog X.w d (storedH xs k a u))) := Tu.upd fun ys e => by
    rw [h1] at e
    unfold DeadO at e
    cases e
  have I' : Inv X pins σ (upd H d (DeadO X.prog X.w d (storedH xs k a u))) { s with heap := h', toks := s.toks + (deadKind X.prog X.w).draws k } := by
    refine I.write (x := d) (e := d) (t' := s.toks + (deadKind X.prog X.w).draws k) (by rw [h1]; trivial) (.inl rfl) (fun b u hb e => (hs'.2 b hb).trans e) ⟨o, ho⟩ ?_
    exact ⟨⟨hd, o, es, ep, ho, hc, hdat, he, hn⟩, ⟨o, ho⟩, fun g1 g2 ⟨hd, o, es, ep, e1, r⟩ st => ⟨hd, o, es, ep, st _ e1, r⟩⟩
  have st : ∀ x ∈ storedH xs k a u, (x ∈ xs ∨ ∃ y ∈ xs, y.1 = x.1 ∧ y.2.1 = x.2.1) ∨ (x.1 = k ∧ x.2.1 = a) := fun x hx => by
    unfold storedH at hx
    split at hx
    · obtain ⟨y, hy, rfl⟩ := List.mem_map.mp hx
      refine .inl (.inr ⟨y, hy, ?_⟩)
      unfold putAt
      split <;> exact ⟨rfl, rfl⟩
    · rcases List.mem_append.mp hx with hx | hx
      · exact .inl (.inl hx)
      · rw [List.mem_singleton.mp hx]
        exact .inr ⟨rfl, rfl⟩
  refine ⟨_, I', q _ ((storedH xs k a u).map (·.1)) But.upd tu ⟨_, upd_same, rfl, fun x hx => ?_⟩ ?_ fun x hx => ?_⟩
  · rcases st x hx with (hx | ⟨y, hy, e1, e2⟩) | ⟨e1, e2⟩
    · exact (h3 x hx).tu tu
    · rw [← e1, ← e2]
      exact (h3 y hy).tu tu
    · rw [e1, e2]
      exact hk.tu tu
  · rw [List.length_map, List.length_map]
    unfold storedH
    split
    · rw [List.length_map]
      omega
    · rw [List.length_append]
      exact Nat.le_refl _
  · obtain ⟨y, hy, rfl⟩ := List.mem_map.mp hx
    rcases st y hy with (hx | ⟨z, hz, e1, e2⟩) | ⟨e1, e2⟩
    · exact .inl (List.mem_map_of_mem hx)
    · rw [← e1]
      exact .inl (List.mem_map_of_mem hz)
    · exact .inr e1
def tDNewD (P : Program) (w : World) : TE := fun _ H Q => ∀ p, H p = none → Q (.ref p) (upd H p (DeadO P w p []))
theorem pe_dnewD : PE X (.Dict [] [] pos) (tDNewD X.prog X.w) := ⟨fun pins s σ H Q I h =>
  wpAny_Dict_empty ⟨.ref s.heap.objs.size, _, I.laid (a := s.heap.objs.size) (o := DeadO X.prog X.w s.heap.objs.size []) (t' := s.toks) (fun _ _ q => Heap.get?_push_of_some _ q) (Nat.le_refl _)
    ⟨⟨beq_eq_false_iff_ne.mpr (Ne.symm (Nat.ne_of_lt I.big)), _, #[], 0, Heap.get?_push_size _ rfl, ⟨rfl, rfl, rfl⟩, rfl, rfl, List.nodup_nil⟩, ⟨_, Heap.get?_push_size _ rfl⟩, fun g1 g2 ⟨hd, o, es, ep, e1, r⟩ st => ⟨hd, o, es, ep, st _ e1, r⟩⟩, rfl, h _ (I.hok.fresh (Nat.le_refl _))⟩⟩
end
theorem units65' {k : Nat} {A : Around} (h : Room k A) : A.units + 5 < cLine := by
  have := h.un
  omega
end Sd

/-! an order is sought: promises -/
namespace Sd
open PySem L2
section
variable {X : Cx} {CX : CXT} {k n : Nat} {ps : List Str} {sp : Sp} {E : XK} {x : Str} {p pos : Pos} {e : Expr} {es : List Expr} {t : TA}
/-- a call that is not reached where n is 0 -/
theorem pe_fnO (c : n = 0 ∨ Cal X.prog X.w X.K X.mg X.base CX k x ps sp) (hr : Room k X.A) (hx : Passes CX X E) (ha : PA X (e :: es) t) (hg : Gl X x := by rfl)
    (hdb : (x == ("__debug__" : Str)) = false := by decide) (he : starEach (e :: es) X.env = (false, eval e X.env) :: starEach es X.env := by rfl) (hpl : (backTo pos (starEach es X.env)).any (·.1) = false := by rfl) :
    PE X (.Call (.Name x p) (e :: es) [] pos) (fun σ H Q => n ≠ 0 ∧ tCall sp [] E t σ H Q) := by
  rcases c with c | c
  · exact ⟨fun _ _ _ _ _ _ h => absurd c h.1⟩
  · exact ⟨fun pins s σ H Q I h => (pe_fn c hr hx ha hg hdb he hpl).run pins s σ H Q I h.2⟩
end
def AllDead (recs : List Rec) (ks : List DKey) : Prop := ∀ k ∈ ks, ∀ left : List Nat, k.left = natI left → NoWay recs left k.st
def spShort5 : Sp := fun vs H Q _ => ∃ (rl ll : Addr) (sv : V) (recs : List Rec) (m : Nat) (left : List Nat) (s : St5), vs = [.ref rl, .ref ll, sv] ∧ RecsAt H rl recs m ∧ H ll = some (.lst ((natI left).map V.int)) ∧ (∀ p ∈ left, p < recs.length) ∧ left.length ≤ 100 ∧ s.At H sv ∧ s.line.length ≤ 1000 ∧
  ∀ v H', Same H H' → (s.short (takes (left.map (recN recs)))).At H' v → Q v H'
def spCompleted (P : Program) (w : World) (n : Nat) : Sp := fun vs H Q _ => ∃ (rl ol dd : Addr) (sv : V) (recs : List Rec) (order : List Nat) (m : Nat) (s : St5) (ks : List DKey), vs = [.ref rl, .ref ol, sv, .ref dd] ∧ RecsAt H rl recs m ∧ recs.length ≤ 10 ∧ (∀ r ∈ recs, r.beg ≤ r.fin) ∧ 1 ≤ m ∧ m ≤ 100 ∧
  H ol = some (.lst ((natI order).map V.int)) ∧ order.Nodup ∧ (∀ p ∈ order, p < recs.length) ∧ order.length + n = recs.length ∧ s.At H sv ∧ s.Ok m ∧ s.line.length ≤ order.length ∧ DeadAt P w H dd ks ∧ AllDead recs ks ∧ ks.length + bnd n < sizeLine ∧
  (∀ H' ks', But dd H H' → DeadAt P w H' dd ks' → AllDead recs ks' → ks'.length ≤ ks.length + bnd n → NoWay recs (leftOf recs.length order) s → Q .non H') ∧
  (∀ H' ol' ps, But dd H H' → H' ol' = some (.lst ((natI (order ++ ps)).map V.int)) → ps.Perm (leftOf recs.length order) → GoodR (ps.map (recN recs)) s → Q (.ref ol') H')
def spFound (ND : Addr) : Sp := fun vs H Q E => ∃ (rl : Addr) (m : Nat), vs = [.ref rl, .int m] ∧
  ((∃ recs, RecsAt H rl recs m ∧ recs.length ≤ 10 ∧ (∀ r ∈ recs, r.beg ≤ r.fin) ∧ 1 ≤ m ∧ m ≤ 100 ∧ (∀ H', Same H H' → ¬ HasOrder recs m → Q .non H') ∧
    ∀ H' ol ps, Same H H' → H' ol = some (.lst ((natI ps).map V.int)) → keepsM recs (natI ps) m = true → Q (.ref ol) H') ∨
   (∃ vs, H rl = some (.lst vs) ∧ 10 < vs.length ∧ E (.ref ND) none H))
theorem DeadAt.but {P : Program} {w : World} {H H' : Hp} {d : Addr} {ks : List DKey} (h : DeadAt P w H d ks) (b : But d H H') : Tu H H' := fun x xs e => b _ _ (fun z => by
  obtain ⟨_, hd, _⟩ := h
  rw [z, hd] at e
  unfold DeadO at e
  cases e) e
theorem DeadAt.ne {P : Program} {w : World} {H : Hp} {d a : Addr} {ks : List DKey} {xs : List V} (h : DeadAt P w H d ks) (e : H a = some (.lst xs)) : a ≠ d := fun z => by
  obtain ⟨_, hd, _⟩ := h
  rw [z, hd] at e
  unfold DeadO at e
  cases e
theorem DeadAt.same {P : Program} {w : World} {H H' : Hp} {d : Addr} {ks : List DKey} (h : DeadAt P w H d ks) (s : Same H H') : DeadAt P w H' d ks := h.off (Tu.same s) fun o e => s _ _ e
theorem St5.At.tu {H H' : Hp} {v : V} {s : St5} (h : s.At H v) (e : Tu H H') : s.At H' v := by
  obtain ⟨t, pc, pl, rfl, h1, h2, h3⟩ := h
  exact ⟨t, pc, pl, rfl, e _ _ h1, e _ _ h2, e _ _ h3⟩
def spHistory2 (K : PySem.W.Frag) : Sp := fun vs H Q _ => ∃ (d a wl : Addr) (ns : List Int) (ws : List Str) (m most : Nat), vs = [.ref d, .int m, .ref wl, .int most] ∧ Dice H d a ∧ SqL K H a (ns.map V.int) ∧
  H wl = some (.lst (ws.map V.str)) ∧ wl ≠ d ∧ (∀ w ∈ ws, w ∈ words10) ∧ 0 < ws.length ∧ ws.length ≤ 100 ∧ 1 ≤ m ∧ m ≤ 100 ∧ most ≤ 1000 ∧
  ∀ fl recs H', RecsAt H' fl recs m → recs.length ≤ most → (∀ r ∈ recs, r.beg ≤ r.fin) → GoodR recs (St5.first m) → H fl = none → Dice H' d a → SqL K H' a (ns.map V.int) → But d H H' → Q (.ref fl) H'
def spRefusedF : Sp := fun vs H Q _ => ∃ (rl : Addr) (m : Nat) (ws : List V), vs = [.ref rl, .int m] ∧ H rl = some (.lst ws) ∧ 10 < ws.length ∧ ∀ H', Same H H' → Q (.bl true) H'
theorem cutV_take {xs : List V} {h : Nat} : cutV xs none (some (h : Int)) = xs.take h := by
  by_cases c : h ≤ xs.length
  · exact cut_take c
  · unfold cutV
    rw [HT.sIx_nat, HT.sIx_none, List.drop_zero, Nat.sub_zero, Nat.min_eq_right (by omega), List.take_of_length_le (Nat.le_refl _), List.take_of_length_le (by omega)]
theorem inV_natI {p : Nat} {order : List Nat} : inV (.int (p : Int)) ((natI order).map V.int) = decide (p ∈ order) := by
  unfold inV
  rw [Bool.eq_iff_iff, List.any_eq_true, decide_eq_true_eq]
  constructor
  · rintro ⟨y, hy, e⟩
    obtain ⟨z, hz, rfl⟩ := List.mem_map.mp hy
    obtain ⟨q, hq, rfl⟩ := List.mem_map.mp hz
    rw [eqV_int] at e
    have := of_decide_eq_true e
    have : q = p := by omega
    rw [← this]
    exact hq
  · intro h
    refine ⟨_, List.mem_map_of_mem (List.mem_map_of_mem h), ?_⟩
    rw [eqV_int]
    exact decide_eq_true rfl
theorem St5.Ok.short {s : St5} {m : Nat} (h : s.Ok m) (n : Nat) : (s.short n).Ok m := ⟨h.cells, by show (s.line.take n).length ≤ 10000; rw [List.length_take]; have := h.line; omega⟩
theorem St5.short_len (s : St5) (n : Nat) : (s.short n).line.length ≤ s.line.length := by show (s.line.take n).length ≤ _; rw [List.length_take]; omega
theorem left_lt {n : Nat} {order : List Nat} : ∀ p ∈ leftOf n order, p < n ∧ p ∉ order := fun p hp => by
  obtain ⟨h1, h2⟩ := List.mem_filter.mp hp
  exact ⟨List.mem_range.mp h1, by simpa using h2⟩
def spCompletedE (P : Program) (w : World) : Sp := fun vs H Q E => ∃ n, n ≤ 10 ∧ spCompleted P w n vs H Q E
theorem FnOk.any {P : Program} {w : World} {K : PySem.W.Frag} {mg : Str → Option Value} {base : Heap} {CX : CXT} {k : Nat} {f : Addr} {fd : FuncData} {ps : List Str} {sp : Nat → Sp} (h : ∀ n, n ≤ 10 → ∃ k', k' ≤ k ∧ FnOk P w K mg base CX k' f fd ps (sp n)) :
    FnOk P w K mg base CX k f fd ps (fun vs H Q E => ∃ n, n ≤ 10 ∧ sp n vs H Q E) := by
  refine ⟨fun vs H Q E ⟨n, hn, q⟩ => ?_, fun A outer s H args us vs Q E hr he hb hv ⟨n, hn, q⟩ => ?_⟩
  · obtain ⟨k', _, F⟩ := h n hn
    exact F.len vs H Q E q
  · obtain ⟨k', hk, F⟩ := h n hn
    exact (F.mono hk).run A outer s H args us vs Q E hr he hb hv q
end Sd

/-! the first records have an order; what no deed tells -/
namespace Sd
open PySem L2
theorem keeps_has {recs : List Rec} {order : List Int} {m : Nat} (hb : ∀ r ∈ recs, r.beg ≤ r.fin) (hok : ∀ r ∈ recs, RecOk m r) (hl : recs.length ≤ 9000) (h : keepsM recs order m = true) : HasOrder recs m := by
  have hp : order.Perm (rangeI recs.length) := by
    unfold keepsM at h
    split at h
    · assumption
    · cases h
  obtain ⟨ps, p1, p2⟩ := perm_places (f := fun i : Nat => (i : Int)) (l := List.range recs.length) (rs := order) hp
  subst p2
  exact HasOrder.places.mpr ⟨ps, p1, (keeps_good hb hok hl p1).mp h⟩
theorem has_keeps {recs : List Rec} {m : Nat} (hb : ∀ r ∈ recs, r.beg ≤ r.fin) (hok : ∀ r ∈ recs, RecOk m r) (hl : recs.length ≤ 9000) (h : HasOrder recs m) : ∃ order, keepsM recs order m = true := by
  obtain ⟨ps, p1, p2⟩ := HasOrder.places.mp h
  exact ⟨_, (keeps_good hb hok hl p1).mpr p2⟩
/-- a row of keys can be sorted -/
theorem keys_sort (l : List Key) : ∃ ks : List Key, ks.Perm l ∧ ks.Pairwise fun a b => klt b a = false := by
  have tot : ∀ a b : Key, klt b a = false ∨ klt a b = false := fun a b => by
    cases h : klt b a with
    | false => exact .inl rfl
    | true => exact .inr (klt_no h)
  have tr : ∀ a b c : Key, klt b a = false → klt c b = false → klt c a = false := fun a b c h1 h2 => by
    cases h : klt c a with
    | false => rfl
    | true =>
      rcases klt_tri h1 with z | z
      · rw [klt_iff] at h z
        have : ¬ klt c b = true := by rw [h2]; exact Bool.false_ne_true
        rw [klt_iff] at this
        omega
      · rw [z, h2] at h
        cases h
  induction l with
  | nil => exact ⟨[], .nil, .nil⟩
  | cons x l ih =>
    obtain ⟨ks, p, s⟩ := ih
    have ins : ∀ ks : List Key, ks.Pairwise (fun a b => klt b a = false) → ∃ ks' : List Key, ks'.Perm (x :: ks) ∧ ks'.Pairwise (fun a b => klt b a = false) := by
      intro ks
      induction ks with
      | nil => exact fun _ => ⟨[x], .refl _, .cons (fun _ h => nomatch h) .nil⟩
      | cons y ks ih2 =>
        intro s
        cases c : klt y x with
        | false =>
          refine ⟨x :: y :: ks, .refl _, .cons (fun z hz => ?_) s⟩
          rcases List.mem_cons.mp hz with rfl | hz
          · exact c
          · exact tr _ _ _ c (List.rel_of_pairwise_cons s hz)
        | true =>
          obtain ⟨ks', p', s'⟩ := ih2 s.of_cons
          refine ⟨y :: ks', (p'.cons y).trans (List.Perm.swap ..), .cons (fun z hz => ?_) s'⟩
          rcases List.mem_cons.mp (p'.mem_iff.mp hz) with rfl | hz
          · exact klt_no c
          · exact List.rel_of_pairwise_cons s hz
    obtain ⟨ks', p', s'⟩ := ins ks s
    exact ⟨ks', p'.trans (p.cons x), s'⟩
theorem Fine.has {s : HallM} (h : Fine s) (hl : s.recs.length ≤ 9000) (hok : ∀ r ∈ s.recs, RecOk s.many r) : HasOrder s.recs s.many := by
  obtain ⟨G, I⟩ := h
  obtain ⟨ks, p, o⟩ := keys_sort s.keys
  exact keeps_has I.time.beg hok hl (I.order p o)
theorem step_recs1 (s : HallM) (i : Nat) : ∃ e : List Rec, (s.step i).recs = s.recs ++ e ∧ e.length ≤ 1 := by
  unfold HallM.step HallM.stepped
  cases (s.plan i)[(s.hand i).ended]? with
  | none => exact ⟨[], (List.append_nil _).symm, by decide⟩
  | some d =>
    refine ⟨_, rfl, ?_⟩
    cases (((s.hand i).step s.many i d s.boxes s.touches.length).ended.map (·.1)) <;> simp
theorem weave_recs_pre : ∀ (row : List Nat) (s : HallM), ∃ e, (s.weave row).recs = s.recs ++ e
  | [], s => ⟨[], (List.append_nil _).symm⟩
  | i :: row, s => by
    obtain ⟨e1, h1, _⟩ := step_recs1 s i
    obtain ⟨e2, h2⟩ := weave_recs_pre row (s.step i)
    exact ⟨e1 ++ e2, by rw [show s.weave (i :: row) = (s.step i).weave row from rfl, h2, h1, List.append_assoc]⟩
theorem first_recs : ∀ (row : List Nat) (s : HallM) (n : Nat), s.recs.length ≤ n → n ≤ (s.weave row).recs.length → ∃ k, (s.weave (row.take k)).recs = (s.weave row).recs.take n
  | [], s, n, h1, h2 => ⟨0, by
    have h2 : n ≤ s.recs.length := h2
    show s.recs = s.recs.take n
    rw [List.take_of_length_le (by omega)]⟩
  | i :: row, s, n, h1, h2 => by
    by_cases c : s.recs.length = n
    · obtain ⟨e, h⟩ := weave_recs_pre (i :: row) s
      refine ⟨0, ?_⟩
      show s.recs = _
      rw [h, List.take_append_of_le_length (by omega), List.take_of_length_le (by omega)]
    · obtain ⟨e, h3, h4⟩ := step_recs1 s i
      obtain ⟨k, hk⟩ := first_recs row (s.step i) n (by rw [h3, List.length_append]; omega) h2
      exact ⟨k + 1, hk⟩
theorem Fine.first {s : HallM} (h : Fine s) {row : List Nat} (hr : ∀ i ∈ row, i < s.many) (h0 : s.recs = []) {n : Nat} (hl : (s.weave row).recs.length ≤ 9000) (hok : ∀ r ∈ (s.weave row).recs, RecOk s.many r) : HasOrder ((s.weave row).recs.take n) s.many := by
  by_cases c : n ≤ (s.weave row).recs.length
  · obtain ⟨k, hk⟩ := first_recs row s n (by rw [h0]; exact Nat.zero_le _) c
    have F := h.weave (row := row.take k) fun i hi => hr i (List.mem_of_mem_take hi)
    have em : (s.weave (row.take k)).many = s.many := weave_many _ _
    rw [← hk, ← em]
    refine F.has ?_ fun r hr => ?_
    · rw [hk, List.length_take]
      omega
    · rw [hk] at hr
      rw [em]
      exact hok r (List.mem_of_mem_take hr)
  · rw [List.take_of_length_le (by omega)]
    have F := h.weave hr
    have em : (s.weave row).many = s.many := weave_many _ _
    have := F.has hl (by rw [em]; exact hok)
    rwa [em] at this
/-- what no deed could have told -/
def odd2 (m : Nat) : Deed → Ans
  | .count => .int (-1)
  | .sum => .int (-1)
  | .top => .int (-1)
  | .look => .view (List.replicate (m + 1) 0)
  | .take => .int 5000
  | _ => .int 0
theorem L5.Rng.odd2 {s : L5} {m : Nat} (o : s.Rng m) (d : Deed) : s.ans d ≠ odd2 m d := by
  obtain ⟨o1, o2, o3, o4, o5⟩ := o
  intro e
  cases d with
  | count =>
    have e : Ans.int s.ones = Ans.int (-1) := e
    injection e with e
    omega
  | sum =>
    have e : Ans.int s.adds.sum = Ans.int (-1) := e
    injection e with e
    have := sum_nn o3
    omega
  | top =>
    have e : Ans.int (top0 s.tops) = Ans.int (-1) := e
    injection e with e
    have : 0 ≤ top0 s.tops := top0_nn _
    omega
  | look =>
    have e : Ans.view s.cells = Ans.view (List.replicate (m + 1) 0) := e
    injection e with e
    rw [e, List.length_replicate] at o2
    omega
  | take =>
    have e : (match s.line with | [] => Ans.non | g :: _ => Ans.int g) = Ans.int 5000 := e
    cases hl : s.line with
    | nil => rw [hl] at e; cases e
    | cons g r =>
      rw [hl] at e
      injection e with e
      have := o5 g (by rw [hl]; exact List.mem_cons_self)
      omega
  | one => cases e
  | set n => cases e
  | add n => cases e
  | rais n => cases e
  | give n => cases e
theorem keeps_not_odd2 {recs : List Rec} {order : List Int} {m : Nat} (hk : keepsM recs order m = true) (hok : ∀ r ∈ recs, RecOk m r) {p : Nat} {r : Rec} (hr : recs[p]? = some r) : r.ans ≠ odd2 m r.deed := by
  obtain ⟨p1, r1⟩ := keeps_run hk
  obtain ⟨hl, _⟩ := List.getElem?_eq_some_iff.mp hr
  obtain ⟨j, hj⟩ := order_place p1 hl
  rw [← run_ans _ _ _ r1 j p r hj hr]
  refine L5.Rng.odd2 (after_rng (L5.Rng.first m) fun q hq => ?_) r.deed
  obtain ⟨i, hi, rfl⟩ := List.mem_map.mp hq
  obtain ⟨x, hx, rfl⟩ := List.mem_map.mp (List.mem_of_mem_take hi)
  obtain ⟨k, rfl, hk2⟩ := mem_rangeI (p1.mem_iff.mp hx)
  exact (hok _ (List.mem_of_getElem? (recN_at hk2))).ok
theorem set_ok {recs : List Rec} {m p : Nat} {r : Rec} (hok : ∀ r ∈ recs, RecOk m r) (hr : recs[p]? = some r) (o : Ans) : ∀ q ∈ recs.set p { r with ans := o }, RecOk m q := fun q hq => by
  rcases List.mem_or_eq_of_mem_set hq with hq | rfl
  · exact hok q hq
  · have := hok r (List.mem_of_getElem? hr)
    exact ⟨this.hand, this.ok⟩
theorem odd2_keeps {recs : List Rec} {order : List Int} {m p : Nat} {r : Rec} (hok : ∀ r ∈ recs, RecOk m r) (hr : recs[p]? = some r) : keepsM (recs.set p { r with ans := odd2 m r.deed }) order m = false := by
  cases h : keepsM (recs.set p { r with ans := odd2 m r.deed }) order m with
  | false => rfl
  | true =>
    obtain ⟨hl, _⟩ := List.getElem?_eq_some_iff.mp hr
    exact absurd rfl (keeps_not_odd2 h (set_ok hok hr _) (List.getElem?_set_self hl))
theorem odd2_none {recs : List Rec} {m p : Nat} {r : Rec} (hb : ∀ r ∈ recs, r.beg ≤ r.fin) (hok : ∀ r ∈ recs, RecOk m r) (hl : recs.length ≤ 9000) (hr : recs[p]? = some r) : ¬ HasOrder (recs.set p { r with ans := odd2 m r.deed }) m := fun h => by
  obtain ⟨order, ho⟩ := has_keeps (fun q hq => by
    rcases List.mem_or_eq_of_mem_set hq with hq | rfl
    · exact hb q hq
    · exact hb r (List.mem_of_getElem? hr)) (set_ok hok hr _) (by rw [List.length_set]; exact hl) h
  rw [odd2_keeps hok hr] at ho
  cases ho
theorem word_eq {d e : Deed} (h : d.word = e.word) (he : e = .look ∨ e = .take ∨ e = .count ∨ e = .sum ∨ e = .top) : d = e := by
  rcases he with rfl | rfl | rfl | rfl | rfl <;> cases d <;> first | rfl | (dsimp only [Deed.word] at h; exact absurd h (by decide))
theorem odd2_int {m : Nat} {d : Deed} (h1 : d ≠ .look) (h2 : d ≠ .take) (h3 : d ≠ .count) (h4 : d ≠ .sum) (h5 : d ≠ .top) : odd2 m d = .int 0 := by
  cases d <;> first | rfl | (exact absurd rfl ‹_›)
theorem in_words {v : Str} {ws : List Str} : inV (.str v) (ws.map V.str) = decide (v ∈ ws) := by
  unfold inV
  rw [Bool.eq_iff_iff, List.any_eq_true, decide_eq_true_eq]
  constructor
  · rintro ⟨y, hy, e⟩
    obtain ⟨z, hz, rfl⟩ := List.mem_map.mp hy
    have : z = v := of_decide_eq_true e
    rw [← this]
    exact hz
  · intro h
    exact ⟨_, List.mem_map_of_mem h, show decide (v = v) = true from decide_eq_true rfl⟩
theorem str_of {a b : Str} (h : decide (V.str a = V.str b) = true) : a = b := by
  have h := of_decide_eq_true h
  injection h
def spOdd2 : Sp := fun vs H Q _ => ∃ (v : V) (r : Rec) (m : Nat), vs = [v, .int m] ∧ RecAt H v r ∧ m ≤ 100 ∧ ∀ H' v', Same H H' → RecAt H' v' { r with ans := odd2 m r.deed } → Q v' H'
end Sd

/-! two hands alike -/
namespace Sd
/-- all of a hand but when its deed began -/
structure LikeH (a b : HandM) : Prop where
  ended : a.ended = b.ended
  ones : a.ones = b.ones
  took : a.took = b.took
  out : a.out = b.out
  reading : a.reading = b.reading
  readings : a.readings = b.readings
  steps : a.steps = b.steps
theorem LikeH.of (a : HandM) (x : Nat) : LikeH a { a with beg := x } := ⟨rfl, rfl, rfl, rfl, rfl, rfl, rfl⟩
theorem LikeH.eq {a b : HandM} (h : LikeH a b) : b = { a with beg := b.beg } := by
  obtain ⟨h1, h2, h3, h4, h5, h6, h7⟩ := h
  cases a
  cases b
  dsimp only at h1 h2 h3 h4 h5 h6 h7
  subst h1 h2 h3 h4 h5 h6 h7
  rfl
theorem LikeH.refl (a : HandM) : LikeH a a := LikeH.of a a.beg
theorem like_out (m i : Nat) (d : Deed) (a : HandM) (x : Nat) : outOf m i d { a with beg := x } = outOf m i d a := rfl
theorem like_first (m i : Nat) (d : Deed) (now now' : Nat) (a : HandM) (x : Nat) : LikeH (a.first m i d now) (({ a with beg := x } : HandM).first m i d now') := by
  unfold HandM.first HandM.start
  by_cases c : a.steps = 0
  · rw [if_pos c, if_pos (show ({ a with beg := x } : HandM).steps = 0 from c)]
    exact ⟨rfl, rfl, rfl, rfl, rfl, rfl, rfl⟩
  · rw [if_neg c, if_neg (show ¬ ({ a with beg := x } : HandM).steps = 0 from c)]
    exact ⟨rfl, rfl, rfl, rfl, rfl, rfl, rfl⟩
theorem like_keep (m i : Nat) (d : Deed) (n : Int) (a : HandM) (x : Nat) : LikeH (a.keep m i d n) (({ a with beg := x } : HandM).keep m i d n) := by
  unfold HandM.keep
  dsimp only
  by_cases c : (a.reading ++ [n]).length = m
  · rw [if_pos c, if_pos c]
    exact ⟨rfl, rfl, rfl, rfl, rfl, rfl, rfl⟩
  · rw [if_neg c, if_neg c]
    exact ⟨rfl, rfl, rfl, rfl, rfl, rfl, rfl⟩
def tellE (x : Rec × Mark) : Nat × Deed × Ans := (x.1.hand, x.1.deed, x.1.ans)
theorem like_done (i : Nat) (d : Deed) (now now' : Nat) (o : Out) (a : HandM) (x : Nat) : LikeH (a.done i d now o).1 (({ a with beg := x } : HandM).done i d now' o).1 ∧ tellE (a.done i d now o).2 = tellE (({ a with beg := x } : HandM).done i d now' o).2 := ⟨⟨rfl, rfl, rfl, rfl, rfl, rfl, rfl⟩, rfl⟩
structure LikeS (a b : Step) : Prop where
  hand : a.touch.hand = b.touch.hand
  put : a.touch.put = b.touch.put
  place : a.touch.place = b.touch.place
  same : a.touch.put = true → a.touch = b.touch
  like : a.touch = b.touch → LikeH a.hand b.hand ∧ a.ended.map tellE = b.ended.map tellE
theorem act_taken {m i : Nat} {d : Deed} {boxes : List Int} {now : Nat} {h : HandM} (e : h.out = none) : (h.act m i d boxes now).touch = ⟨i, false, h.place m d, boxes.getD (h.place m d) 0⟩ := by
  unfold HandM.act
  rw [e]
  dsimp only
  cases (h.keep m i d (boxes.getD (h.place m d) 0)).out with
  | none => rfl
  | some o =>
    dsimp only
    split <;> rfl
theorem LikeH.keep {a b : HandM} (h : LikeH a b) (m i : Nat) (d : Deed) (n : Int) : LikeH (a.keep m i d n) (b.keep m i d n) := by
  rw [h.eq]
  exact like_keep m i d n a _
theorem LikeH.done {a b : HandM} (h : LikeH a b) (i : Nat) (d : Deed) (now now' : Nat) (o : Out) : LikeH (a.done i d now o).1 (b.done i d now' o).1 ∧ tellE (a.done i d now o).2 = tellE (b.done i d now' o).2 := by
  rw [h.eq]
  exact like_done i d now now' o a _
theorem LikeH.first {a b : HandM} (h : LikeH a b) (m i : Nat) (d : Deed) (now now' : Nat) : LikeH (a.first m i d now) (b.first m i d now') := by
  rw [h.eq]
  exact like_first m i d now now' a _
theorem LikeH.act {a b : HandM} (h : LikeH a b) (m i : Nat) (d : Deed) (bs bs' : List Int) (now now' : Nat) : LikeS (a.act m i d bs now) (b.act m i d bs' now') := by
  cases e : a.out with
  | some o =>
    have e2 : b.out = some o := h.out ▸ e
    have L := h.done i d now now' o
    unfold HandM.act
    rw [e, e2]
    exact ⟨rfl, rfl, rfl, fun _ => rfl, fun _ => ⟨L.1, congrArg some L.2⟩⟩
  | none =>
    have e2 : b.out = none := h.out ▸ e
    have t1 := act_taken (m := m) (i := i) (d := d) (boxes := bs) (now := now) e
    have t2 := act_taken (m := m) (i := i) (d := d) (boxes := bs') (now := now') e2
    have ep : b.place m d = a.place m d := by
      unfold HandM.place
      rw [h.reading]
    rw [ep] at t2
    refine ⟨by rw [t1, t2], by rw [t1, t2], by rw [t1, t2], fun z => (by rw [t1] at z; cases z), fun z => ?_⟩
    rw [t1, t2] at z
    injection z with _ _ _ z
    clear t1 t2
    have hk := h.keep m i d (bs.getD (a.place m d) 0)
    unfold HandM.act
    rw [e, e2, ep]
    dsimp only
    rw [← z]
    generalize bs.getD (a.place m d) 0 = n at hk ⊢
    generalize a.keep m i d n = k1 at hk ⊢
    generalize b.keep m i d n = k2 at hk ⊢
    have eo : k2.out = k1.out := hk.out.symm
    rw [eo]
    cases k1.out with
    | none => exact ⟨hk, rfl⟩
    | some o =>
      dsimp only
      have L := hk.done i d now now' o
      split
      · exact ⟨hk, rfl⟩
      · exact ⟨L.1, congrArg some L.2⟩
theorem LikeH.step {a b : HandM} (h : LikeH a b) (m i : Nat) (d : Deed) (bs bs' : List Int) (now now' : Nat) : LikeS (a.step m i d bs now) (b.step m i d bs' now') := by
  unfold HandM.step
  exact (h.first m i d now now').act m i d bs bs' now now'
def tell2 (r : Rec) : Deed × Ans := (r.deed, r.ans)
def ownOf (i : Nat) (rs : List Rec) : List (Deed × Ans) := (rs.filter fun r => r.hand == i).map tell2
theorem ownOf_app (i : Nat) (a b : List Rec) : ownOf i (a ++ b) = ownOf i a ++ ownOf i b := by
  unfold ownOf
  rw [List.filter_append, List.map_append]
structure LikeAt (i : Nat) (s t : HallM) : Prop where
  many : s.many = t.many
  plan : s.plan i = t.plan i
  hand : LikeH (s.hand i) (t.hand i)
  recs : ownOf i s.recs = ownOf i t.recs
theorem LikeAt.new {i : Nat} {P P' : List (List Deed)} (h1 : P.length = P'.length) (h2 : P.getD i [] = P'.getD i []) : LikeAt i (HallM.new P) (HallM.new P') := by
  refine ⟨h1, h2, ?_, rfl⟩
  show LikeH ((List.replicate P.length (HandM.new P.length)).getD i (HandM.new 0)) ((List.replicate P'.length (HandM.new P'.length)).getD i (HandM.new 0))
  rw [h1]
  exact LikeH.refl _
/-- a step of the hand itself -/
theorem LikeAt.own {i : Nat} {s t : HallM} (h : LikeAt i s t) (hs : i < s.hands.length) (ht : i < t.hands.length) :
    (s.stepped i = none ∧ t.stepped i = none) ∨ ∃ s' t' ta tb, s.stepped i = some s' ∧ t.stepped i = some t' ∧ s'.touches = s.touches ++ [ta] ∧ t'.touches = t.touches ++ [tb] ∧ ta.hand = tb.hand ∧ ta.put = tb.put ∧ ta.place = tb.place ∧ (ta.put = true → ta = tb) ∧ (ta = tb → LikeAt i s' t') := by
  have ee : (s.plan i)[(s.hand i).ended]? = (t.plan i)[(t.hand i).ended]? := by rw [h.plan, h.hand.ended]
  unfold HallM.stepped
  rw [← ee]
  cases hd : (s.plan i)[(s.hand i).ended]? with
  | none => exact .inl ⟨rfl, rfl⟩
  | some d =>
    have L := h.hand.step s.many i d s.boxes t.boxes s.touches.length t.touches.length
    have p1 := HallM.put_hand (s := s) (i := i) (st := (s.hand i).step s.many i d s.boxes s.touches.length) hs i
    have p2 := HallM.put_hand (s := t) (i := i) (st := (t.hand i).step t.many i d t.boxes t.touches.length) ht i
    rw [if_pos rfl] at p1 p2
    rw [← h.many] at p2
    refine .inr ⟨s.put i ((s.hand i).step s.many i d s.boxes s.touches.length), t.put i ((t.hand i).step t.many i d t.boxes t.touches.length), _, _, rfl, rfl, rfl, rfl, ?_⟩
    rw [← h.many]
    obtain ⟨e1, e2⟩ := step_hand s.many i s.touches.length d s.boxes (s.hand i)
    obtain ⟨f1, f2⟩ := step_hand s.many i t.touches.length d t.boxes (t.hand i)
    generalize (s.hand i).step s.many i d s.boxes s.touches.length = sa at L p1 e1 e2 ⊢
    generalize (t.hand i).step s.many i d t.boxes t.touches.length = sb at L p2 f1 f2 ⊢
    refine ⟨L.hand, L.put, L.place, L.same, fun z => ?_⟩
    obtain ⟨l1, l2⟩ := L.like z
    refine ⟨h.many, h.plan, by rw [p1, p2]; exact l1, ?_⟩
    show ownOf i (s.recs ++ (sa.ended.map (·.1)).toList) = ownOf i (t.recs ++ (sb.ended.map (·.1)).toList)
    rw [ownOf_app, ownOf_app, h.recs]
    congr 1
    cases ea : sa.ended with
    | none =>
      cases eb : sb.ended with
      | none => rfl
      | some y => rw [ea, eb] at l2; cases l2
    | some x =>
      cases eb : sb.ended with
      | none => rw [ea, eb] at l2; cases l2
      | some y =>
        rw [ea, eb] at l2
        have l2 : tellE x = tellE y := Option.some.inj l2
        injection l2 with l2 l3
        injection l3 with l3 l4
        show ownOf i [x.1] = ownOf i [y.1]
        unfold ownOf
        by_cases c : x.1.hand = i
        · rw [List.filter_cons_of_pos (by rw [beq_iff_eq]; exact c), List.filter_cons_of_pos (by rw [beq_iff_eq, ← l2]; exact c)]
          show [tell2 x.1] = [tell2 y.1]
          unfold tell2
          rw [l3, l4]
        · rw [List.filter_cons_of_neg (by rw [beq_iff_eq]; exact c), List.filter_cons_of_neg (by rw [beq_iff_eq, ← l2]; exact c)]
/-- a step of another hand -/
theorem step_keeps {s : HallM} {i j : Nat} (hs : i < s.hands.length) (n : i ≠ j) : (s.step i).many = s.many ∧ (s.step i).plan j = s.plan j ∧ (s.step i).hand j = s.hand j ∧ ownOf j (s.step i).recs = ownOf j s.recs := by
  cases e : (s.plan i)[(s.hand i).ended]? with
  | none =>
    rw [(stepped_none e).2]
    exact ⟨rfl, rfl, rfl, rfl⟩
  | some d =>
    obtain ⟨s', h1, h2, S⟩ := stepped_of hs e
    rw [h2]
    refine ⟨by unfold HallM.many; rw [S.plans], by unfold HallM.plan; rw [S.plans], S.other j n.symm, ?_⟩
    rcases S.own with ⟨o, _⟩ | ⟨r, o, hr, _⟩
    · rw [o]
    · rw [o, ownOf_app]
      have : ownOf j [r] = [] := by
        unfold ownOf
        rw [List.filter_cons_of_neg (by rw [beq_iff_eq, hr]; exact n)]
        rfl
      rw [this, List.append_nil]
theorem LikeAt.other {i j : Nat} {s t : HallM} (h : LikeAt j s t) (hs : i < s.hands.length) (ht : i < t.hands.length) (n : i ≠ j) : LikeAt j (s.step i) (t.step i) := by
  obtain ⟨a1, a2, a3, a4⟩ := step_keeps hs n
  obtain ⟨b1, b2, b3, b4⟩ := step_keeps ht n
  exact ⟨by rw [a1, b1]; exact h.many, by rw [a2, b2]; exact h.plan, by rw [a3, b3]; exact h.hand, by rw [a4, b4]; exact h.recs⟩
end Sd

--@@CUT0

namespace K07
open PySem L2
def top (i : Nat) : Stmt := PySem.Challenge.pw_stillhands_k07_a_hall_begun.main.body.getD i (.Pass ⟨0, 0, 0, 0⟩)
abbrev s_Boxes__init_ : Stmt := inClass (top 7) 0
abbrev s_Boxes_take : Stmt := inClass (top 7) 1
abbrev s_Boxes_put : Stmt := inClass (top 7) 2
abbrev s_Boxes_need : Stmt := inClass (top 7) 3
abbrev s_need_deed : Stmt := top 15
abbrev s__need_number : Stmt := top 16
abbrev s_counter_outcome : Stmt := top 18
abbrev s_packed : Stmt := top 21
abbrev s_parted : Stmt := top 22
abbrev s_line_outcome : Stmt := top 24
abbrev s__given : Stmt := top 25
abbrev s__left : Stmt := top 26
abbrev s_picture_outcome : Stmt := top 29
abbrev s__view : Stmt := top 30
abbrev s__row : Stmt := top 31
abbrev s__cell_behind : Stmt := top 32
abbrev s_Hand__init_ : Stmt := inClass (top 34) 0
abbrev s_Hand_is_through : Stmt := inClass (top 34) 1
abbrev s_Hand_step : Stmt := inClass (top 34) 2
abbrev s_Hand_keep : Stmt := inClass (top 34) 3
abbrev s_Hand_outcome_of : Stmt := inClass (top 34) 4
abbrev s_Hand_end : Stmt := inClass (top 34) 5
abbrev s_told_order : Stmt := top 37
abbrev s__moment : Stmt := top 38
abbrev s__line_keys : Stmt := top 39
abbrev s__gives : Stmt := top 40
abbrev s_Hall__init_ : Stmt := inClass (top 44) 0
abbrev s_Hall_step : Stmt := inClass (top 44) 1
abbrev s_Hall_weave : Stmt := inClass (top 44) 2
abbrev s_Hall_steps_of : Stmt := inClass (top 44) 3
abbrev s_Hall_records : Stmt := inClass (top 44) 4
abbrev s_Hall_order : Stmt := inClass (top 44) 5
abbrev s_Hall_touches : Stmt := inClass (top 44) 6
abbrev s_Hall_need : Stmt := inClass (top 44) 7
abbrev s__need_plans : Stmt := top 45
abbrev s_l_cell : Stmt := top 47
abbrev s_l_dice : Stmt := top 48
abbrev s_l_off : Stmt := top 49
abbrev s_l_deed : Stmt := top 50
abbrev s_l_plans : Stmt := top 51
abbrev s_l_refused : Stmt := top 52
abbrev s_l_words : Stmt := top 53
abbrev s_law : Stmt := top 54
structure Dr (K : PySem.W.Frag) (mg : Str → Option Value) : Prop where
  abs : mg "abs" = none
  len : mg "len" = none
  max : mg "max" = none
  int : mg "int" = none
structure Txt (K : PySem.W.Frag) (mg : Str → Option Value) (w : World) (A_Boxes A_Hand A_Hall A_HandsError A_NoNumber A_NoBox A_NoHand A_NoDeed A_THING_OF A_WITH_A_NUMBER A_TELLING : Addr) (tT tG tH tD tC tL tV tM : Tok) : Prop extends Dr K mg where
  range : mg "range" = none
  isinstance : mg "isinstance" = none
  bool : mg "bool" = none
  list : mg "list" = none
  sum : mg "sum" = none
  min : mg "min" = none
  sorted : mg "sorted" = none
  tuple : mg "tuple" = none
  reversed : mg "reversed" = none
  zip : mg "zip" = none
  ValueError : mg "ValueError" = none
  str : mg "str" = none
  m_GREATEST : mg "GREATEST" = some (.int 999 tG)
  m_MOST_HANDS : mg "MOST_HANDS" = some (.int 4 tH)
  m_MOST_DEEDS : mg "MOST_DEEDS" = some (.int 40 tD)
  m_THINGS : mg "THINGS" = some (.int 5 tT)
  m_COUNTER : mg "COUNTER" = some (.int 0 tC)
  m_LINE : mg "LINE" = some (.int 4 tL)
  m_VIEW : mg "VIEW" = some (.int 2 tV)
  m_LIMIT : mg "LIMIT" = some (.int 1000000 tM)
  m_HandsError : mg "HandsError" = some (.ref A_HandsError)
  m_NoNumber : mg "NoNumber" = some (.ref A_NoNumber)
  m_NoBox : mg "NoBox" = some (.ref A_NoBox)
  m_NoHand : mg "NoHand" = some (.ref A_NoHand)
  m_NoDeed : mg "NoDeed" = some (.ref A_NoDeed)
  r_NoHand : Sd.Ref K A_NoHand A_HandsError [A_NoBox, A_NoNumber, A_NoDeed]
  r_NoDeed : Sd.Ref K A_NoDeed A_HandsError []
  m_Hand : mg "Hand" = some (.ref A_Hand)
  cl_Hand : Cls K A_Hand
  n_Hand__hand : NoAttr K A_Hand "_hand"
  n_Hand__plan : NoAttr K A_Hand "_plan"
  n_Hand__many : NoAttr K A_Hand "_many"
  n_Hand__ended : NoAttr K A_Hand "_ended"
  n_Hand__ones : NoAttr K A_Hand "_ones"
  n_Hand__took : NoAttr K A_Hand "_took"
  n_Hand__begin : NoAttr K A_Hand "_begin"
  n_Hand__outcome : NoAttr K A_Hand "_outcome"
  n_Hand__reading : NoAttr K A_Hand "_reading"
  n_Hand__readings : NoAttr K A_Hand "_readings"
  n_Hand_steps : NoAttr K A_Hand "steps"
  m_Hall : mg "Hall" = some (.ref A_Hall)
  cl_Hall : Cls K A_Hall
  n_Hall__boxes : NoAttr K A_Hall "_boxes"
  n_Hall__hands : NoAttr K A_Hall "_hands"
  n_Hall__records : NoAttr K A_Hall "_records"
  n_Hall__marks : NoAttr K A_Hall "_marks"
  n_Hall__touches : NoAttr K A_Hall "_touches"
  m_Boxes : mg "Boxes" = some (.ref A_Boxes)
  cl_Boxes : Cls K A_Boxes
  n_Boxes__numbers : NoAttr K A_Boxes "_numbers"
  k_THING_OF : Sd.KD K w mg "THING_OF" A_THING_OF Sd.kvThing Sd.noThing
  k_WITH_A_NUMBER : Sd.KT K mg "WITH_A_NUMBER" A_WITH_A_NUMBER Sd.with4
  k_TELLING : Sd.KT K mg "TELLING" A_TELLING Sd.tell4
end K07
/-! a hand that there isn't: promises with an error -/
namespace Sd
open PySem L2
def NoSuch (s : HallM) (i : Int) : Prop := i < 0 ∨ (s.many : Int) ≤ i
def spNeedHE (CB CD CH NH : Addr) : Sp := fun vs H Q E => ∃ (g : HallG) (s : HallM) (i : Int), vs = [.ref g.ha, .int i] ∧ HallAt CB CD CH H g s ∧ ((0 ≤ i ∧ i < s.many ∧ Q .non H) ∨ (NoSuch s i ∧ E (.ref NH) none H))
def spHallStepE (CB CD CH NH : Addr) : Sp := fun vs H Q E => ∃ (g : HallG) (s : HallM) (i : Int), vs = [.ref g.ha, .int i] ∧ HallAt CB CD CH H g s ∧
  ((∃ n : Nat, i = (n : Int) ∧ n < s.many ∧ StepOk s ∧ ∀ g' H', HallAt CB CD CH H' g' (s.step n) → HGrow H g g' → Off g.list H H' → Q (.bl (s.stepped n).isSome) H') ∨ (NoSuch s i ∧ E (.ref NH) none H))
def spWeaveE (K : PySem.W.Frag) (CB CD CH NH : Addr) : Sp := fun vs H Q E => ∃ (g : HallG) (s : HallM) (rw : Addr) (row : List Int), vs = [.ref g.ha, .ref rw] ∧ HallAt CB CD CH H g s ∧ H rw = some (.lst (row.map V.int)) ∧
  ((row = [] ∧ Q (.int 0) H) ∨ ((∃ i ∈ row, NoSuch s i) ∧ E (.ref NH) none H))
def spStepsOfE (CB CD CH NH : Addr) : Sp := fun vs H Q E => ∃ (g : HallG) (s : HallM) (i : Int), vs = [.ref g.ha, .int i] ∧ HallAt CB CD CH H g s ∧ ((∃ n : Nat, i = (n : Int) ∧ n < s.many ∧ Q (.int (s.hand n).steps) H) ∨ (NoSuch s i ∧ E (.ref NH) none H))
end Sd
namespace Sd
open PySem L2
theorem ExtN.tu {H H' : Hp} (e : LamX.ExtN H H') : Tu H H' := fun a xs h => e a _ h fun _ z => by cases z
theorem HandAt.ext {C : Addr} {H H' : Hp} {g : HG} {i many : Nat} {plan : List Deed} {h : HandM} (a : HandAt C H g i many plan h) (o : LamX.ExtN H H') : HandAt C H' g i many plan h := by
  have t := ExtN.tu o
  obtain ⟨dx, ov, h1, h2⟩ := a.ob
  obtain ⟨ps, p1, p2⟩ := a.pl
  exact ⟨⟨dx, ov, o _ _ h1 (fun _ z => by cases z), h2.tu t⟩, ⟨ps, o _ _ p1 (fun _ z => by cases z), p2.tu t⟩, o _ _ a.tk (fun _ z => by cases z), o _ _ a.rd (fun _ z => by cases z), o _ _ a.rs (fun _ z => by cases z), Paired.mapM a.rr fun x _ y e => o _ _ e (fun _ z => by cases z), a.n1, a.n2⟩
theorem HallAt.ext {CB CD CH : Addr} {H H' : Hp} {g : HallG} {s : HallM} (a : HallAt CB CD CH H g s) (o : LamX.ExtN H H') : HallAt CB CD CH H' g s := by
  have t := ExtN.tu o
  obtain ⟨dx, h1⟩ := a.ob
  obtain ⟨dx2, h2⟩ := a.bx
  obtain ⟨v1, h3, p3⟩ := a.rc
  obtain ⟨v2, h4, p4⟩ := a.mr
  obtain ⟨v3, h5, p5⟩ := a.tc
  exact ⟨⟨dx, o _ _ h1 (fun _ z => by cases z)⟩, ⟨dx2, o _ _ h2 (fun _ z => by cases z)⟩, o _ _ a.bl (fun _ z => by cases z), o _ _ a.hl (fun _ z => by cases z), ⟨v1, o _ _ h3 (fun _ z => by cases z), Paired.mapM p3 fun x _ y e => e.tu t⟩, ⟨v2, o _ _ h4 (fun _ z => by cases z), Paired.mapM p4 fun x _ y e => e.tu t⟩,
    ⟨v3, o _ _ h5 (fun _ z => by cases z), Paired.mapM p5 fun x _ y e => e.tu t⟩, a.len, fun i x hx => (a.hand i x hx).ext o, a.own, a.apart, a.sep⟩
end Sd
namespace Sd
open PySem L2
def deedD (d : Deed) : PyData := .tuple d.data
def planD (p : List Deed) : PyData := .list (p.map deedD)
def plansD (ps : List (List Deed)) : PyData := .list (ps.map planD)
theorem lay_deeds : ∀ p : List Deed, PyData.canLayAll0 (p.map deedD) = true
  | [] => rfl
  | d :: p => by
    show (PyData.canLayAll0 d.data && PyData.canLayAll0 (p.map deedD)) = true
    rw [Deed.lay, lay_deeds p]
    rfl
theorem depth_deeds : ∀ p : List Deed, PyData.depthAll (p.map deedD) ≤ 1
  | [] => Nat.zero_le _
  | d :: p => by
    have h : PyData.depthAll ((d :: p).map deedD) = max (PyData.depthAll d.data + 1) (PyData.depthAll (p.map deedD)) := rfl
    rw [Deed.depth] at h
    have := depth_deeds p
    omega
theorem planD_lay (p : List Deed) : PyData.canLay0 (planD p) = true := lay_deeds p
theorem planD_shaped (p : List Deed) : SeqAt.shaped (planD p) = true := by
  have h2 : PyData.depth (planD p) = PyData.depthAll (p.map deedD) + 1 := rfl
  have := depth_deeds p
  unfold SeqAt.shaped
  rw [planD_lay, Bool.true_and]
  exact decide_eq_true (by omega)
theorem lay_plans : ∀ ps : List (List Deed), PyData.canLayAll0 (ps.map planD) = true
  | [] => rfl
  | p :: ps => by
    show (PyData.canLay0 (planD p) && PyData.canLayAll0 (ps.map planD)) = true
    rw [planD_lay, lay_plans ps]
    rfl
theorem depth_plans : ∀ ps : List (List Deed), PyData.depthAll (ps.map planD) ≤ 2
  | [] => Nat.zero_le _
  | p :: ps => by
    have h : PyData.depthAll ((p :: ps).map planD) = max (PyData.depthAll (p.map deedD) + 1) (PyData.depthAll (ps.map planD)) := rfl
    have := depth_deeds p
    have := depth_plans ps
    omega
theorem plansD_lay (ps : List (List Deed)) : PyData.canLay0 (plansD ps) = true := lay_plans ps
theorem plansD_shaped (ps : List (List Deed)) : SeqAt.shaped (plansD ps) = true := by
  have h2 : PyData.depth (plansD ps) = PyData.depthAll (ps.map planD) + 1 := rfl
  have := depth_plans ps
  unfold SeqAt.shaped
  rw [plansD_lay, Bool.true_and]
  exact decide_eq_true (by omega)
theorem dp_plan {K : PySem.W.Frag} {H : Hp} : ∀ {ps : List Addr} {plan : List Deed}, PlanAt H ps plan → DpAll K H (ps.map V.ref) (plan.map deedD)
  | _, _, .nil => .nil
  | _, _, .cons h hs => .cons (.tup (SqT.of h) (Deed.dpAll _)) (dp_plan hs)
theorem dp_plans {K : PySem.W.Frag} {H : Hp} : ∀ {ls : List Addr} {pss : List (List Addr)} {plans : List (List Deed)}, Paired (fun l ps => H l = some (.lst (ps.map V.ref))) ls pss → Paired (fun ps plan => PlanAt H ps plan) pss plans → DpAll K H (ls.map V.ref) (plans.map planD)
  | _, _, _, .nil, .nil => .nil
  | _, _, _, .cons h hs, .cons g gs => .cons (.lst (SqL.of h) (dp_plan g)) (dp_plans hs gs)
end Sd
namespace Sd
open PySem L2
theorem Dice.ne_refs {H : Hp} {d a l : Addr} {xs : List Addr} (h : Dice H d a) (hl : H l = Option.some (.lst (xs.map V.ref))) : l ≠ d := fun z => by
  obtain ⟨n1, n2, n3, hd⟩ := h
  rw [z, hd] at hl
  injection hl with hl
  injection hl with hl
  cases xs with
  | nil => cases hl
  | cons x xs => injection hl with hl _; cases hl
end Sd
namespace Sd
open PySem L2
theorem Fine.steps30 {s s' : HallM} (F : Fine s) {i : Nat} (hi : i < s.many) (e : s.stepped i = some s') : (s'.hand i).steps ≤ 30 := by
  obtain ⟨G, I⟩ := id F
  cases hd : (s.plan i)[(s.hand i).ended]? with
  | none => rw [(stepped_none hd).1] at e; cases e
  | some d =>
    obtain ⟨s2, h1, h2, S⟩ := stepped_of (by rw [I.hl]; exact hi) hd
    rw [e] at h1
    cases h1
    rcases S.own with ⟨g1, g2, g3, g4⟩ | ⟨r, g1, _, _, _, _, g6, _⟩
    · have F' : Fine s' := h2 ▸ F.step hi
      obtain ⟨G', I'⟩ := id F'
      have hm : s'.many = s.many := by unfold HallM.many; rw [S.plans]
      have e' : (s'.plan i)[(s'.hand i).ended]? = some d := by
        rw [g3]
        unfold HallM.plan
        rw [S.plans]
        exact hd
      have h3 := I'.steps_lt (by rw [hm]; exact hi) e'
      have h4 := mostN_le I'.m4 d
      omega
    · omega
theorem Alone.lt {s0 s : HallM} {i n : Nat} (A : Alone s0 s i n) (hi : i < s.many) {d : Deed} (e : (s.plan i)[(s.hand i).ended]? = some d) : n < sumMost s.many (s.plan i) := by
  obtain ⟨G, I⟩ := id A.fine
  have hlt := (List.getElem?_eq_some_iff.mp e).1
  rcases A.go with h | h
  · omega
  · have h2 := I.steps_lt hi e
    have h3 := congrArg (sumMost s.many) (List.take_append_drop ((s.hand i).ended + 1) (s.plan i))
    have et : (s.plan i).take ((s.hand i).ended + 1) = (s.plan i).take (s.hand i).ended ++ [d] := by
      obtain ⟨a, b⟩ := List.getElem?_eq_some_iff.mp e
      rw [List.take_succ_eq_append_getElem a, b]
    rw [sumMost_app, et, sumMost_snoc] at h3
    omega
structure Through (plans : List (List Deed)) (s : HallM) (j : Nat) : Prop where
  fine : Fine s
  plans : s.plans = plans
  fresh : ∀ k, j ≤ k → k < s.many → (s.hand k).steps = 0 ∧ (s.hand k).ended = 0
  over : ∀ k, k < j → (s.hand k).ended = (s.plan k).length
  now : s.touches.length ≤ 126 * j
theorem Through.new {plans : List (List Deed)} (F : Fine (HallM.new plans)) : Through plans (HallM.new plans) 0 := by
  refine ⟨F, rfl, fun k _ hk => ?_, fun k h => absurd h (Nat.not_lt_zero _), Nat.zero_le _⟩
  have e : (HallM.new plans).hand k = HandM.new plans.length := by
    have hk : k < plans.length := hk
    show (List.replicate plans.length (HandM.new plans.length)).getD k _ = _
    rw [List.getD_eq_getElem?_getD, List.getElem?_replicate, if_pos hk]
    rfl
  rw [e]
  exact ⟨rfl, rfl⟩
theorem Through.alone {plans : List (List Deed)} {s : HallM} {j : Nat} (T : Through plans s j) (hj : j < s.many) : Alone s s j 0 :=
  ⟨T.fine, rfl, ⟨[], (List.append_nil _).symm, fun _ h => nomatch h⟩, .inr (Nat.zero_le _), fun z => absurd (T.fresh j (Nat.le_refl _) hj).1 z, Nat.le_refl _, fun _ _ => rfl⟩
theorem Through.next {plans : List (List Deed)} {s s' : HallM} {j n : Nat} (T : Through plans s j) (hj : j < s.many) (A : Alone s s' j n) (hn : n ≤ 126) (ht : s'.touches.length ≤ 126 * j + n) (e : s'.stepped j = none) : Through plans s' (j + 1) := by
  have hpl : ∀ k, s'.plan k = s.plan k := fun k => by unfold HallM.plan; rw [A.plans]
  have hm : s'.many = s.many := by unfold HallM.many; rw [A.plans]
  refine ⟨A.fine, A.plans.trans T.plans, fun k h1 h2 => ?_, fun k hk => ?_, by omega⟩
  · rw [A.other k (by omega)]
    exact T.fresh k (by omega) (by rw [← hm]; exact h2)
  · by_cases c : k = j
    · subst c
      obtain ⟨G, I⟩ := id A.fine
      have hle := (I.hand k (by rw [hm]; exact hj)).le
      cases hd : (s'.plan k)[(s'.hand k).ended]? with
      | none =>
        have := List.getElem?_eq_none_iff.mp hd
        omega
      | some d =>
        obtain ⟨s2, h1, _, _⟩ := stepped_of (by rw [I.hl, hm]; exact hj) hd
        rw [e] at h1
        cases h1
    · rw [A.other k c, hpl]
      exact T.over k (by omega)
theorem Through.deeds {plans : List (List Deed)} {s : HallM} {j : Nat} (T : Through plans s j) (h1 : 1 ≤ j) (hm : 0 < s.many) : (s.recs.filter fun r => r.hand == 0).map (·.deed) = plans.getD 0 [] := by
  obtain ⟨G, I⟩ := id T.fine
  have h := (I.hand 0 hm).done
  rw [T.over 0 (by omega), List.take_length] at h
  rw [h]
  unfold HallM.plan
  rw [T.plans]
def Kept1 (H H' : Hp) (g g' : HallG) : Prop := ∀ y o, H y = some o → y ∉ g.list → H' y = some o ∧ y ∉ g'.list
end Sd

namespace K07
open PySem L2
def spLaw (K : PySem.W.Frag) : Sp := fun vs H Q _ => ∃ (a : Addr) (ns : List Int), vs = [.ref a] ∧ SqL K H a (ns.map V.int) ∧ ns.length ≤ 63 ∧ ∀ H', Q (.bl true) H'
/-! a cell of the script -/
section
variable {P : Program} {w : World} {K : PySem.W.Frag} {mg : Str → Option Value} {base : Heap}
abbrev N_l_cell : List Str := ["_law_script", "_law_k"]
theorem sc_l_cell : FnScope N_l_cell ["_law_script", "_law_k"] (defScope s_l_cell) := ⟨rfl, rfl, rfl, by decide +kernel, rfl, by decide +kernel, by decide +kernel⟩
theorem ok_l_cell {f : Addr} {fd : FuncData} (F : Fun K "_law_cell" "_law_cell" s_l_cell f fd) (T : Dr K mg) : FnOk P w K mg base CX0 1 f fd ["_law_script", "_law_k"] (Sd.spCell K) := by
  refine F.ok sc_l_cell (fun vs H Q E h => ?_) (fun cdv A outer s H vs Q E hr h => ?_)
  · obtain ⟨a, ns, k, rfl, _⟩ := h
    rfl
  · obtain ⟨a, ns, k, rfl, h0, hS, q⟩ := h
    refine ⟨_, (pss_cons (ps_if (pt_cmpR op_lt (pv 1) (pe_callB call_len_seq (by rfl) T.len (by decide +kernel) (pa_cons (pv 0) pa_nil)) (nomark _))
      (pss_one (ps_ret (pe_ix ix_list (pv 0) (pv 1) (fun _ _ => rfl))))
      pss_nil)
      (pss_one (ps_ret pe_int))), ?_⟩
    obtain ⟨m, rfl⟩ := Int.eq_ofNat_of_zero_le h0
    refine ⟨_, rfl, _, rfl, a, _, rfl, .inl hS, _, _, rfl, rfl, _, rfl, ?_⟩
    refine ite2 (fun c => ?_) (fun c => ?_)
    · have hm : m < ns.length := by
        have c' := of_decide_eq_true c
        rw [List.length_map] at c'
        omega
      exact ⟨_, rfl, _, rfl, a, _, _, _, rfl, rfl, hS, atI_nat (Sd.ints_get (List.getElem?_eq_getElem hm)), q _⟩
    · exact q 0
end
/-! the defs of the draws -/
section
variable {P : Program} {w : World} {K : PySem.W.Frag} {mg : Str → Option Value} {base : Heap}
abbrev N_l_dice : List Str := ["_law_script", "_law_k", "_law_cell_here"]
theorem sc_l_dice : FnScope N_l_dice ["_law_script", "_law_k"] (defScope s_l_dice) := ⟨rfl, rfl, rfl, by decide +kernel, rfl, by decide +kernel, by decide +kernel⟩
theorem ok_l_dice {f : Addr} {fd : FuncData} (F : Fun K "_law_dice" "_law_dice" s_l_dice f fd) (T : Dr K mg) (C_l_cell : Sd.Cal P w K mg base CX0 1 "_law_cell" ["_law_script", "_law_k"] (Sd.spCell K)) :
    FnOk P w K mg base CX0 2 f fd ["_law_script", "_law_k"] (Sd.spDice K) := by
  refine F.ok sc_l_dice (fun vs H Q E h => ?_) (fun cdv A outer s H vs Q E hr h => ?_)
  · obtain ⟨a, ns, k, rfl, _⟩ := h
    rfl
  · obtain ⟨a, ns, k, rfl, h0, hS, q⟩ := h
    refine ⟨_, (pss_cons (ps_set (i := 2) sc_l_dice.nd rfl (Or.inl rfl) (pe_callB call_abs (by rfl) T.abs (by decide +kernel) (pa_cons (Sd.pe_fn C_l_cell (hr.mono (by decide)) pass0 (pa_cons (pv 0) (pa_cons (pv 1) pa_nil))) pa_nil)))
      (pss_one (ps_ret (pe_lst (pa_cons (pe_op op_mod (pv 2) pe_int) (pa_cons (pv 0) (pa_cons (pe_op op_add (pv 1) pe_int) (pa_cons (pe_op op_mul (pe_callTy call_int1 (by rfl) T.int (by decide +kernel) (pa_cons (pe_cmpR op_ge (pv 2) (pe_op op_pow pe_int pe_int) (nomark _)) pa_nil)) (pv 2)) pa_nil)))))))), ?_⟩
    refine ⟨_, rfl, _, rfl, a, ns, k, rfl, h0, hS, fun v => ⟨v, rfl, ?_⟩⟩
    refine ⟨_, rfl, _, _, rfl, rfl, (by show (0 : Int) < 2147483647; decide), _, rfl, _, rfl, _, _, rfl, rfl, ?_⟩
    refine ⟨_, rfl, _, _, rfl, rfl, ⟨by decide, by decide, by decide⟩, _, _, rfl, rfl, .inr ⟨_, rfl, ?_⟩⟩
    refine ⟨_, rfl, _, _, rfl, rfl, .inl ?_, (by show 4 ≤ sizeLine; decide), fun p hp => ?_⟩
    · exact Sd.b01 _
    · exact q p _ hp (Sd.Same.new hp) Sd.But.upd ⟨_, _, _, upd_same⟩ fun b n => upd_ne n
abbrev N_l_off : List Str := ["_law_d", "_law_most", "_law_found", "_law_more"]
theorem sc_l_off : FnScope N_l_off ["_law_d", "_law_most"] (defScope s_l_off) := ⟨rfl, rfl, rfl, by decide +kernel, rfl, by decide +kernel, by decide +kernel⟩
theorem ok_l_off {f : Addr} {fd : FuncData} (F : Fun K "_law_off" "_law_off" s_l_off f fd) (T : Dr K mg) (C_l_cell : Sd.Cal P w K mg base CX0 1 "_law_cell" ["_law_script", "_law_k"] (Sd.spCell K)) :
    FnOk P w K mg base CX0 2 f fd ["_law_d", "_law_most"] (Sd.spOff K) := by
  refine F.ok sc_l_off (fun vs H Q E h => ?_) (fun cdv A outer s H vs Q E hr h => ?_)
  · obtain ⟨d, a, ns, m, rfl, _⟩ := h
    rfl
  · obtain ⟨d, a, ns, m, rfl, ⟨n, k, g, hd⟩, hS, hm0, hm1, q⟩ := h
    refine ⟨_, (pss_cons (ps_if (pt_cmpR op_gt (pe_ix ix_list (pv 0) pe_int (fun _ _ => rfl)) pe_int (nomark _))
      (pss_cons (ps_set (i := 2) sc_l_off.nd rfl (Or.inl rfl) (pe_op op_mod (pe_ix ix_list (pv 0) pe_int (fun _ _ => rfl)) (pv 1)))
      (pss_cons (ps_asg (pe_op op_fdiv (pe_ix ix_list (pv 0) pe_int (fun _ _ => rfl)) (pv 1)) (pg_sub (pv 0) pe_int set_list))
      (pss_one (ps_ret (pv 2)))))
      pss_nil)
      (pss_cons (ps_set (i := 3) sc_l_off.nd rfl (Or.inl rfl) (pe_callB call_abs (by rfl) T.abs (by decide +kernel) (pa_cons (Sd.pe_fn C_l_cell (hr.mono (by decide)) pass0 (pa_cons (pe_ix ix_list (pv 0) pe_int (fun _ _ => rfl)) (pa_cons (pe_op op_mod (pe_ix ix_list (pv 0) pe_int (fun _ _ => rfl)) (pe_callB (call_max2 rfl) (by rfl) T.max (by decide +kernel) (pa_cons pe_int (pa_cons (pe_callB call_len_seq (by rfl) T.len (by decide +kernel) (pa_cons (pe_ix ix_list (pv 0) pe_int (fun _ _ => rfl)) pa_nil)) pa_nil)))) pa_nil))) pa_nil)))
      (pss_cons (ps_asg (pe_op op_add (pe_ix ix_list (pv 0) pe_int (fun _ _ => rfl)) pe_int) (pg_sub (pv 0) pe_int set_list))
      (pss_cons (ps_asg (pe_op op_mod (pe_op op_add (pe_op op_add (pe_op op_mul (pe_ix ix_list (pv 0) pe_int (fun _ _ => rfl)) pe_int) pe_int) (pv 3)) pe_int) (pg_sub (pv 0) pe_int set_list))
      (pss_one (ps_ret (pe_op op_mod (pe_op op_fdiv (pe_ix ix_list (pv 0) pe_int (fun _ _ => rfl)) pe_int) (pv 1)))))))), ?_⟩
    have at0 : ∀ x y z t : V, atI [x, y, z, t] (0 : Int) = some x := fun _ _ _ _ => atI_nat (j := 0) rfl
    have at1 : ∀ x y z t : V, atI [x, y, z, t] (1 : Int) = some y := fun _ _ _ _ => atI_nat (j := 1) rfl
    have at2 : ∀ x y z t : V, atI [x, y, z, t] (2 : Int) = some z := fun _ _ _ _ => atI_nat (j := 2) rfl
    have at3 : ∀ x y z t : V, atI [x, y, z, t] (3 : Int) = some t := fun _ _ _ _ => atI_nat (j := 3) rfl
    refine ⟨_, rfl, d, _, _, _, rfl, rfl, SqL.of hd, at3 _ _ _ _, _, _, rfl, rfl, _, rfl, ?_⟩
    refine ite2 (fun c => ?_) (fun c => ?_)
    · refine ⟨_, rfl, d, _, _, _, rfl, rfl, SqL.of hd, at3 _ _ _ _, _, rfl, _, _, rfl, rfl, hm0, ?_⟩
      refine ⟨_, rfl, d, _, _, _, rfl, rfl, SqL.of hd, at3 _ _ _ _, _, rfl, _, _, rfl, rfl, ⟨hm0, hm1⟩, _, rfl, d, _, _, 3, rfl, rfl, hd, rfl, ?_⟩
      exact ⟨_, rfl, q _ _ (Int.emod_nonneg _ (by omega)) (Int.emod_lt_of_pos _ hm0) ⟨n, k, _, upd_same⟩ fun b e => upd_ne e⟩
    · refine ⟨_, rfl, d, _, _, _, rfl, rfl, SqL.of hd, at1 _ _ _ _, _, rfl, d, _, _, _, rfl, rfl, SqL.of hd, at2 _ _ _ _, ?_⟩
      refine ⟨_, rfl, d, _, _, _, rfl, rfl, SqL.of hd, at1 _ _ _ _, a, _, rfl, .inl hS, _, _, rfl, ?_⟩
      have hM : (0 : Int) < (if (((ns.map V.int).length : Nat) : Int) > 1 then (((ns.map V.int).length : Nat) : Int) else 1) := by
        split <;> omega
      refine ⟨_, _, rfl, rfl, hM, ?_⟩
      refine ⟨a, ns, _, rfl, Int.emod_nonneg _ (by omega), hS, fun v => ⟨v, rfl, ?_⟩⟩
      refine ⟨_, rfl, d, _, _, _, rfl, rfl, SqL.of hd, at2 _ _ _ _, _, _, rfl, rfl, _, rfl, d, _, _, 2, rfl, rfl, hd, rfl, ?_⟩
      refine ⟨_, rfl, d, _, _, _, rfl, rfl, SqL.of upd_same, at0 _ _ _ _, _, _, rfl, rfl, .inr ⟨by decide, by decide⟩, _, _, rfl, rfl, ?_⟩
      refine ⟨_, rfl, _, _, rfl, rfl, _, _, rfl, rfl, (by show (0 : Int) < 2147483647; decide), _, rfl, d, _, _, 0, rfl, rfl, upd_same, rfl, ?_⟩
      refine ⟨_, rfl, d, _, _, _, rfl, rfl, SqL.of upd_same, at0 _ _ _ _, _, _, rfl, rfl, ⟨by decide, by decide⟩, _, rfl, _, _, rfl, rfl, hm0, ?_⟩
      exact q _ _ (Int.emod_nonneg _ (by omega)) (Int.emod_lt_of_pos _ hm0) ⟨_, _, _, upd_same⟩ fun b e => by rw [upd_ne e, upd_ne e]
end

section
variable {P : Program} {w : World} {K : PySem.W.Frag} {mg : Str → Option Value} {base : Heap}
abbrev N_l_deed : List Str := ["_law_d", "_law_word"]
theorem sc_l_deed : FnScope N_l_deed ["_law_d", "_law_word"] (defScope s_l_deed) := ⟨rfl, rfl, rfl, by decide +kernel, rfl, by decide +kernel, by decide +kernel⟩
theorem ok_l_deed {f : Addr} {fd : FuncData} (F : Fun K "_law_deed" "_law_deed" s_l_deed f fd) (T : Dr K mg)
    (C_l_off : Sd.Cal P w K mg base CX0 2 "_law_off" ["_law_d", "_law_most"] (Sd.spOff K))
    : FnOk P w K mg base CX0 3 f fd ["_law_d", "_law_word"] (Sd.spLDeed K) := by
  refine F.ok sc_l_deed (fun vs H Q E h => ?_) (fun cdv A outer s H vs Q E hr h => ?_)
  · obtain ⟨d, a, ns, w, rfl, _⟩ := h
    rfl
  · obtain ⟨d, a, ns, w, rfl, hw, D, hS, q⟩ := h
    refine ⟨_, (pss_cons (ps_if (pt_cmpR op_in_seq (pv 1) (pe_lst (pa_cons pe_str (pa_cons pe_str (pa_cons pe_str (pa_cons pe_str pa_nil))))) (by rfl))
      (pss_one (ps_ret (pe_tup (pa_cons (pv 1) (pa_cons (pe_ix ix_list (pe_lst (pa_cons (Sd.pe_fn C_l_off (hr.mono (by decide)) pass0 (pa_cons (pv 0) (pa_cons pe_int pa_nil))) (pa_cons (Sd.pe_fn C_l_off (hr.mono (by decide)) pass0 (pa_cons (pv 0) (pa_cons pe_int pa_nil))) pa_nil))) (Sd.pe_fn C_l_off (hr.mono (by decide)) pass0 (pa_cons (pv 0) (pa_cons pe_int pa_nil))) (fun _ _ => rfl)) pa_nil)))))
      pss_nil)
      (pss_one (ps_ret (pe_tup (pa_cons (pv 1) pa_nil))))), ?_⟩
    refine ⟨_, rfl, (by show 4 ≤ sizeLine; decide), fun p hp => ⟨p, _, rfl, .inl (SqL.of upd_same), rfl, rfl, _, rfl, ?_⟩⟩
    have D1 : Sd.Dice (upd H p (.lst [.str "set", .str "add", .str "raise", .str "give"])) d a := D.same (Sd.Same.new hp)
    have S1 : SqL K (upd H p (.lst [.str "set", .str "add", .str "raise", .str "give"])) a (ns.map V.int) := (Sd.Same.new hp).seq hS
    have s1 : Same H (upd H p (.lst [.str "set", .str "add", .str "raise", .str "give"])) := Sd.Same.new hp
    generalize upd H p (.lst [.str "set", .str "add", .str "raise", .str "give"]) = H1 at D1 S1 s1
    obtain ⟨dd, rfl⟩ := Sd.word_of hw
    cases dd
    all_goals first
      | refine ⟨_, rfl, (by show 1 ≤ sizeLine; decide), fun t ht => ?_⟩
        exact q t _ _ rfl trivial (s1.free ht) upd_same (D1.same (Sd.Same.new ht)) (Sd.Same.but (s1.trans (Sd.Same.new ht)))
      | refine ⟨_, rfl, _, rfl, d, a, ns, 1000, rfl, D1, S1, by decide, by decide, fun r1 H2 r10 r11 D2 o2 => ?_⟩
        have b2 : Sd.But d H1 H2 := fun c u n e => by rw [o2 c n]; exact e
        have S2 := D1.seq b2 S1
        refine ⟨_, rfl, d, a, ns, 4, rfl, D2, S2, by decide, by decide, fun r2 H3 r20 r21 D3 o3 => ?_⟩
        have b3 : Sd.But d H2 H3 := fun c u n e => by rw [o3 c n]; exact e
        have S3 := D2.seq b3 S2
        refine ⟨(by show 2 ≤ sizeLine; decide), fun l hl => ?_⟩
        have D4 : Sd.Dice (upd H3 l (.lst [.int r1, .int r2])) d a := D3.same (Sd.Same.new hl)
        refine ⟨_, rfl, d, a, ns, 2, rfl, D4, (Sd.Same.new hl).seq S3, by decide, by decide, fun r3 H5 r30 r31 D5 o5 => ?_⟩
        have nl : l ≠ d := fun z => by
          obtain ⟨_, hd⟩ := D3.some
          rw [z, hd] at hl
          cases hl
        have hl5 : H5 l = some (.lst [.int r1, .int r2]) := by rw [o5 l nl]; exact upd_same
        obtain ⟨z, hz, hzz⟩ := Sd.two_at (n := r1) (m := r2) r30 r31
        refine ⟨l, _, _, _, rfl, rfl, SqL.of hl5, hz, ?_⟩
        refine ⟨(by show 2 ≤ sizeLine; decide), fun t ht => ?_⟩
        have b5 : Sd.But d (upd H3 l (.lst [.int r1, .int r2])) H5 := fun c u n e => by rw [o5 c n]; exact e
        have bt : ∀ o, Sd.But d H (upd H5 t o) := fun o => ((((Sd.Same.but (d := d) s1).trans b2).trans b3).trans (Sd.Same.but (Sd.Same.new hl))).trans (b5.trans (Sd.Same.but (Sd.Same.new ht)))
        have hf : H t = none := by
          cases e : H t with
          | none => rfl
          | some u =>
            have n : t ≠ d := fun z => by
              obtain ⟨_, hd⟩ := D5.some
              rw [z, hd] at ht
              cases ht
            have e5 := (((((Sd.Same.but (d := d) s1).trans b2).trans b3).trans (Sd.Same.but (Sd.Same.new hl))).trans b5) t u n e
            rw [ht] at e5
            cases e5
        have ok9 : 0 ≤ z ∧ z ≤ 999 := by
          rcases hzz with rfl | rfl <;> omega
        first
          | exact q t _ (.set z) rfl ok9 hf upd_same (D5.same (Sd.Same.new ht)) (bt _)
          | exact q t _ (.add z) rfl ok9 hf upd_same (D5.same (Sd.Same.new ht)) (bt _)
          | exact q t _ (.rais z) rfl ok9 hf upd_same (D5.same (Sd.Same.new ht)) (bt _)
          | exact q t _ (.give z) rfl ok9 hf upd_same (D5.same (Sd.Same.new ht)) (bt _)
end

section
variable {P : Program} {w : World} {K : PySem.W.Frag} {mg : Str → Option Value} {base : Heap} {A_Boxes A_Hand A_Hall A_HandsError A_NoNumber A_NoBox A_NoHand A_NoDeed A_THING_OF A_WITH_A_NUMBER A_TELLING : Addr} {tT tG tH tD tC tL tV tM : Tok}
abbrev N__need_number : List Str := ["deed"]
theorem sc__need_number : FnScope N__need_number ["deed"] (defScope s__need_number) := ⟨rfl, rfl, rfl, by decide +kernel, rfl, by decide +kernel, by decide +kernel⟩
theorem ok__need_number {f : Addr} {fd : FuncData} (F : Fun K "_need_number" "_need_number" s__need_number f fd) (T : (Txt K mg w A_Boxes A_Hand A_Hall A_HandsError A_NoNumber A_NoBox A_NoHand A_NoDeed A_THING_OF A_WITH_A_NUMBER A_TELLING tT tG tH tD tC tL tV tM))
    : FnOk P w K mg base (L2.CX P w) 1 f fd ["deed"] (Sd.spNN A_NoDeed) := by
  refine F.okX sc__need_number (fun vs H Q E h => ?_) (fun cdv A outer s H vs Q E hr h => ?_)
  · obtain ⟨p, wd, r, rfl, _⟩ := h
    rfl
  · obtain ⟨p, wd, r, rfl, hp, q⟩ := h
    refine ⟨_, (pss_cons (ps_if (pt_cmpR op_ne (pe_callB call_len_seq (by rfl) T.len (by decide +kernel) (pa_cons (pv 0) pa_nil)) pe_int (nomark _))
      (pss_one (ps_raise rfl (takes_of rfl rfl rfl rfl) (pmk_own PySem.F.excBase_ValueError T.r_NoDeed.ex T.m_NoDeed T.r_NoDeed.kp (raises_own T.r_NoDeed.b T.r_NoDeed.t) rfl)))
      pss_nil)
      (pss_one (ps_if (PW.pt (pw_or (pt_cmpR op_lt (pe_ix ix_tup (pv 0) pe_int (fun _ _ => rfl)) pe_int (nomark _)) (pw_or1 (pt_cmpR op_gt (pe_ix ix_tup (pv 0) pe_int (fun _ _ => rfl)) (pe_glob (v := .int 999) rfl T.m_GREATEST ⟨_, rfl⟩) (nomark _)))))
      (pss_one (ps_raise rfl (takes_of rfl rfl rfl rfl) (pmk_own PySem.F.excBase_ValueError T.r_NoDeed.ex T.m_NoDeed T.r_NoDeed.kp (raises_own T.r_NoDeed.b T.r_NoDeed.t) rfl)))
      pss_nil))), ?_⟩
    refine ⟨_, rfl, p, _, rfl, .inr (SqT.of hp), rfl, _, rfl, ?_⟩
    rcases q with ⟨n, rfl, n0, n1, q⟩ | ⟨hb, q⟩
    · refine ⟨_, rfl, p, _, _, _, rfl, rfl, SqT.of hp, atI_nat (j := 1) rfl, _, _, rfl, rfl, _, rfl, ?_⟩
      refine ite2 (fun c => absurd (of_decide_eq_true c) (by omega)) (fun _ => ?_)
      refine ⟨_, rfl, p, _, _, _, rfl, rfl, SqT.of hp, atI_nat (j := 1) rfl, _, _, rfl, rfl, _, rfl, ?_⟩
      refine ite2 (fun c => absurd (of_decide_eq_true c) (by omega)) (fun _ => q)
    · by_cases e : r.length = 1
      · rcases hb with hb | ⟨n, rfl, hb⟩
        · exact absurd e hb
        · refine ⟨_, rfl, p, _, _, _, rfl, rfl, SqT.of hp, atI_nat (j := 1) rfl, _, _, rfl, rfl, _, rfl, ?_⟩
          refine ite2 (fun c => q) (fun c => ?_)
          refine ⟨_, rfl, p, _, _, _, rfl, rfl, SqT.of hp, atI_nat (j := 1) rfl, _, _, rfl, rfl, _, rfl, ?_⟩
          refine ite2 (fun c => q) (fun c2 => ?_)
          have d1 : ¬ (n < 0) := fun z => c (decide_eq_true z)
          have d2 : ¬ (999 < n) := fun z => c2 (decide_eq_true z)
          exact absurd ⟨by omega, by omega⟩ hb
      · refine ite2 (fun _ => q) (fun c => ?_)
        refine absurd ?_ c
        have : (V.int (((V.str wd :: r).length : Nat) : Int) = V.int 2) → False := fun z => by
          injection z with z
          rw [List.length_cons] at z
          omega
        rw [decide_eq_false this]
        rfl
abbrev N_need_deed : List Str := ["deed", "hand"]
theorem sc_need_deed : FnScope N_need_deed ["deed", "hand"] (defScope s_need_deed) := ⟨rfl, rfl, rfl, by decide +kernel, rfl, by decide +kernel, by decide +kernel⟩
theorem ok_need_deed {f : Addr} {fd : FuncData} (F : Fun K "need_deed" "need_deed" s_need_deed f fd) (T : (Txt K mg w A_Boxes A_Hand A_Hall A_HandsError A_NoNumber A_NoBox A_NoHand A_NoDeed A_THING_OF A_WITH_A_NUMBER A_TELLING tT tG tH tD tC tL tV tM))
    (C__need_number : Sd.Cal P w K mg base (L2.CX P w) 1 "_need_number" ["deed"] (Sd.spNN A_NoDeed))
    : FnOk P w K mg base (L2.CX P w) 2 f fd ["deed", "hand"] (Sd.spNeedDeed A_NoDeed) := by
  refine F.okX sc_need_deed (fun vs H Q E h => ?_) (fun cdv A outer s H vs Q E hr h => ?_)
  · obtain ⟨p, hd, rfl, _⟩ := h
    rfl
  · obtain ⟨p, hd, rfl, q⟩ := h
    refine ⟨_, (pss_cons (ps_if (PW.pt (pw_or (pt_cmpR op_eq (pe_callB call_len_seq (by rfl) T.len (by decide +kernel) (pa_cons (pv 0) pa_nil)) pe_int (nomark _)) (pw_or1 (pt_cmpR Sd.op_notKD (pe_ix ix_tup (pv 0) pe_int (fun _ _ => rfl)) (pe_glob (v := .ref A_THING_OF) rfl T.k_THING_OF.m rfl) (by rfl)))))
      (pss_one (ps_raise rfl (takes_of rfl rfl rfl rfl) (pmk_own PySem.F.excBase_ValueError T.r_NoDeed.ex T.m_NoDeed T.r_NoDeed.kp (raises_own T.r_NoDeed.b T.r_NoDeed.t) rfl)))
      pss_nil)
      (C8.pss_cut (ps_if (pt_cmpR op_in_seq (pe_ix ix_tup (pv 0) pe_int (fun _ _ => rfl)) (pe_glob (v := .ref A_WITH_A_NUMBER) rfl T.k_WITH_A_NUMBER.m rfl) (by rfl))
      (pss_one (ps_expr (Sd.pe_fn C__need_number (hr.mono (by decide)) (passes_call (takes_of rfl rfl rfl rfl) (fun _ _ _ _ h => h)) (pa_cons (pv 0) pa_nil))))
      (pss_one (ps_if (pt_cmpR op_gt (pe_callB call_len_seq (by rfl) T.len (by decide +kernel) (pa_cons (pv 0) pa_nil)) pe_int (nomark _))
      (pss_one (ps_raise rfl (takes_of rfl rfl rfl rfl) (pmk_own PySem.F.excBase_ValueError T.r_NoDeed.ex T.m_NoDeed T.r_NoDeed.kp (raises_own T.r_NoDeed.b T.r_NoDeed.t) rfl)))
      pss_nil)))
      (pss_one (ps_if (PW.pt (pw_and (pt_cmpR op_eq (pe_ix ix_tup (pv 0) pe_int (fun _ _ => rfl)) pe_str (nomark _)) (pw_and1 (pt_cmpR op_ne (pv 1) pe_int (nomark _)))))
      (pss_one (ps_raise rfl (takes_of rfl rfl rfl rfl) (pmk_own PySem.F.excBase_ValueError T.r_NoDeed.ex T.m_NoDeed T.r_NoDeed.kp (raises_own T.r_NoDeed.b T.r_NoDeed.t) rfl)))
      pss_nil)))), ?_⟩
    obtain ⟨es, ne, hes, hke⟩ := T.k_THING_OF.lk
    have isin : ∀ {wd : Str}, wd ∈ Sd.words10 → ∃ r, PySem.W.nsIn K A_THING_OF wd = some r ∧ r.isSome = true := fun hm => by
      obtain ⟨v, hv⟩ := Sd.kv_of hm
      obtain ⟨t, e⟩ := T.k_THING_OF.at_ _ hv
      exact ⟨_, e, rfl⟩
    rcases q with ⟨⟨d, hp, hok, ht⟩, q⟩ | ⟨⟨xs, hp, hb⟩, q⟩
    · obtain ⟨r, hr, hs⟩ := isin d.mem10
      have st1 : ∀ {X Y : Prop}, Y → (if (!r.isSome) = true then X else Y) := fun y => by
        rw [hs]
        exact y
      have hp' : H p = some (.tup d.vals) := hp
      have hD : d.vals = V.str d.word :: d.vals.drop 1 := by cases d <;> rfl
      cases d
      all_goals
        refine ⟨_, rfl, p, _, rfl, .inr (SqT.of hp'), rfl, _, rfl, ?_⟩
        refine ⟨_, rfl, p, _, _, _, rfl, rfl, SqT.of hp', atI_nat (j := 0) rfl, _, A_THING_OF, es, ne, _, rfl, rfl, hes, hke, T.k_THING_OF.lo, hr, _, rfl, st1 ?_⟩
        refine ⟨fun σ' H' => σ' = [some (.ref p), some (.int hd)] ∧ H' = H, ?_, ?_⟩
        · refine ⟨_, rfl, p, _, _, _, rfl, rfl, SqT.of hp', atI_nat (j := 0) rfl, A_WITH_A_NUMBER, _, rfl, .inr (T.k_WITH_A_NUMBER.at_ _), rfl, rfl, _, rfl, ?_⟩
          first
            | exact ⟨_, rfl, p, _, _, rfl, hp', .inl ⟨_, rfl, hok.1, hok.2, rfl, rfl⟩⟩
            | exact ⟨_, rfl, p, _, rfl, .inr (SqT.of hp'), _, _, rfl, rfl, _, rfl, rfl, rfl⟩
        · rintro σ' H' ⟨rfl, rfl⟩
          refine ⟨_, rfl, p, _, _, _, rfl, rfl, SqT.of hp', atI_nat (j := 0) rfl, rfl, _, rfl, ?_⟩
          first
            | exact q
            | (refine ⟨_, rfl, rfl, _, rfl, ?_⟩
               rw [ht rfl]
               exact q)
    · have len0 : ∀ {wd : Str} {r : List V} {X Y : Prop}, Y → if decide (V.int (((V.str wd :: r).length : Nat) : Int) = V.int 0) = true then X else Y := fun {wd r X Y} y => by
        have : V.int (((V.str wd :: r).length : Nat) : Int) = V.int 0 → False := fun z => by
          injection z with z
          rw [List.length_cons] at z
          omega
        rw [decide_eq_false this]
        exact y
      have to4 : ∀ {wd : Str}, wd ∈ Sd.with4 → wd ∈ Sd.words10 := fun hw => by
        simp only [Sd.with4, List.mem_cons, List.not_mem_nil, or_false] at hw
        rcases hw with rfl | rfl | rfl | rfl <;> decide +kernel
      have to6 : ∀ {wd : Str}, wd ∈ Sd.less6 → wd ∈ Sd.words10 := fun hw => by
        simp only [Sd.less6, List.mem_cons, List.not_mem_nil, or_false] at hw
        rcases hw with rfl | rfl | rfl | rfl | rfl | rfl <;> decide +kernel
      have st1 : ∀ {r : Option Value} {X Y : Prop}, r.isSome = true → Y → (if (!r.isSome) = true then X else Y) := fun hs y => by
        rw [hs]
        exact y
      have in4 : ∀ {wd : Str}, wd ∈ Sd.with4 → inV (.str wd) (Sd.with4.map V.str) = true := fun hw => by
        simp only [Sd.with4, List.mem_cons, List.not_mem_nil, or_false] at hw
        rcases hw with rfl | rfl | rfl | rfl <;> decide +kernel
      have in6 : ∀ {wd : Str}, wd ∈ Sd.less6 → inV (.str wd) (Sd.with4.map V.str) = false := fun hw => by
        simp only [Sd.less6, List.mem_cons, List.not_mem_nil, or_false] at hw
        rcases hw with rfl | rfl | rfl | rfl | rfl | rfl <;> decide +kernel
      rcases hb with rfl | ⟨wd, r, rfl, hw⟩ | ⟨wd, r, rfl, hw, hr⟩ | ⟨wd, n, rfl, hw, hn⟩ | ⟨wd, r, rfl, hw, hr⟩ | ⟨rfl, hh⟩
      · exact ⟨_, rfl, p, _, rfl, .inr (SqT.of hp), rfl, _, rfl, q⟩
      · refine ⟨_, rfl, p, _, rfl, .inr (SqT.of hp), rfl, _, rfl, len0 ?_⟩
        exact ⟨_, rfl, p, _, _, _, rfl, rfl, SqT.of hp, atI_nat (j := 0) rfl, _, A_THING_OF, es, ne, _, rfl, rfl, hes, hke, T.k_THING_OF.lo, T.k_THING_OF.no_ _ hw, _, rfl, q⟩
      · refine ⟨_, rfl, p, _, rfl, .inr (SqT.of hp), rfl, _, rfl, len0 ?_⟩
        obtain ⟨r1, hr1, hs1⟩ := isin (to4 hw)
        refine ⟨_, rfl, p, _, _, _, rfl, rfl, SqT.of hp, atI_nat (j := 0) rfl, _, A_THING_OF, es, ne, _, rfl, rfl, hes, hke, T.k_THING_OF.lo, hr1, _, rfl, st1 hs1 ?_⟩
        refine ⟨fun _ _ => False, ?_, fun _ _ h => h.elim⟩
        refine ⟨_, rfl, p, _, _, _, rfl, rfl, SqT.of hp, atI_nat (j := 0) rfl, A_WITH_A_NUMBER, _, rfl, .inr (T.k_WITH_A_NUMBER.at_ _), rfl, rfl, _, rfl, Sd.if_yes (in4 hw) ?_⟩
        exact ⟨_, rfl, p, wd, r, rfl, hp, .inr ⟨.inl hr, q⟩⟩
      · refine ⟨_, rfl, p, _, rfl, .inr (SqT.of hp), rfl, _, rfl, len0 ?_⟩
        obtain ⟨r1, hr1, hs1⟩ := isin (to4 hw)
        refine ⟨_, rfl, p, _, _, _, rfl, rfl, SqT.of hp, atI_nat (j := 0) rfl, _, A_THING_OF, es, ne, _, rfl, rfl, hes, hke, T.k_THING_OF.lo, hr1, _, rfl, st1 hs1 ?_⟩
        refine ⟨fun _ _ => False, ?_, fun _ _ h => h.elim⟩
        refine ⟨_, rfl, p, _, _, _, rfl, rfl, SqT.of hp, atI_nat (j := 0) rfl, A_WITH_A_NUMBER, _, rfl, .inr (T.k_WITH_A_NUMBER.at_ _), rfl, rfl, _, rfl, Sd.if_yes (in4 hw) ?_⟩
        exact ⟨_, rfl, p, wd, _, rfl, hp, .inr ⟨.inr ⟨n, rfl, hn⟩, q⟩⟩
      · refine ⟨_, rfl, p, _, rfl, .inr (SqT.of hp), rfl, _, rfl, len0 ?_⟩
        obtain ⟨r1, hr1, hs1⟩ := isin (to6 hw)
        refine ⟨_, rfl, p, _, _, _, rfl, rfl, SqT.of hp, atI_nat (j := 0) rfl, _, A_THING_OF, es, ne, _, rfl, rfl, hes, hke, T.k_THING_OF.lo, hr1, _, rfl, st1 hs1 ?_⟩
        refine ⟨fun _ _ => False, ?_, fun _ _ h => h.elim⟩
        refine ⟨_, rfl, p, _, _, _, rfl, rfl, SqT.of hp, atI_nat (j := 0) rfl, A_WITH_A_NUMBER, _, rfl, .inr (T.k_WITH_A_NUMBER.at_ _), rfl, rfl, _, rfl, Sd.if_not (in6 hw) ?_⟩
        refine ⟨_, rfl, p, _, rfl, .inr (SqT.of hp), _, _, rfl, rfl, _, rfl, ?_⟩
        refine ite2 (fun _ => q) (fun c => absurd (decide_eq_true ?_) c)
        have : 0 < r.length := List.length_pos_iff.mpr hr
        rw [List.length_cons]
        omega
      · refine ⟨_, rfl, p, _, rfl, .inr (SqT.of hp), rfl, _, rfl, len0 ?_⟩
        obtain ⟨r1, hr1, hs1⟩ := isin (wd := "take") (by decide +kernel)
        refine ⟨_, rfl, p, _, _, _, rfl, rfl, SqT.of hp, atI_nat (j := 0) rfl, _, A_THING_OF, es, ne, _, rfl, rfl, hes, hke, T.k_THING_OF.lo, hr1, _, rfl, st1 hs1 ?_⟩
        refine ⟨fun σ' H' => σ' = [some (.ref p), some (.int hd)] ∧ H' = H, ?_, ?_⟩
        · refine ⟨_, rfl, p, _, _, _, rfl, rfl, SqT.of hp, atI_nat (j := 0) rfl, A_WITH_A_NUMBER, _, rfl, .inr (T.k_WITH_A_NUMBER.at_ _), rfl, rfl, _, rfl, ?_⟩
          exact ⟨_, rfl, p, _, rfl, .inr (SqT.of hp), _, _, rfl, rfl, _, rfl, rfl, rfl⟩
        · rintro σ' H' ⟨rfl, rfl⟩
          refine ⟨_, rfl, p, _, _, _, rfl, rfl, SqT.of hp, atI_nat (j := 0) rfl, rfl, _, rfl, ?_⟩
          refine ⟨_, rfl, rfl, _, rfl, ?_⟩
          have : V.int hd = V.int 0 → False := fun z => by
            injection z with z
            exact hh z
          rw [decide_eq_false this]
          exact q
end

section
variable {P : Program} {w : World} {K : PySem.W.Frag} {mg : Str → Option Value} {base : Heap} {A_Boxes A_Hand A_Hall A_HandsError A_NoNumber A_NoBox A_NoHand A_NoDeed A_THING_OF A_WITH_A_NUMBER A_TELLING : Addr} {tT tG tH tD tC tL tV tM : Tok}
abbrev N_Boxes__init_ : List Str := ["self", "many"]
theorem sc_Boxes__init_ : FnScope N_Boxes__init_ ["self", "many"] (defScope s_Boxes__init_) := ⟨rfl, rfl, rfl, by decide +kernel, rfl, by decide +kernel, by decide +kernel⟩
theorem ok_Boxes__init_ {f : Addr} {fd : FuncData} (F : Fun K "__init__" "Boxes.__init__" s_Boxes__init_ f fd) (T : (Txt K mg w A_Boxes A_Hand A_Hall A_HandsError A_NoNumber A_NoBox A_NoHand A_NoDeed A_THING_OF A_WITH_A_NUMBER A_TELLING tT tG tH tD tC tL tV tM))
    : FnOk P w K mg base CX0 1 f fd ["self", "many"] (Sd.spBInit A_Boxes) := by
  refine F.ok sc_Boxes__init_ (fun vs H Q E h => ?_) (fun cdv A outer s H vs Q E hr h => ?_)
  · obtain ⟨p, dx, n, rfl, _⟩ := h
    rfl
  · obtain ⟨p, dx, n, rfl, h0, h1, hp, q⟩ := h
    refine ⟨_, (pss_one (ps_fld (pv 0) (pe_op op_rep (pe_lst (pa_cons pe_int pa_nil)) (pv 1)) rfl)), ?_⟩
    refine ⟨(by show 1 ≤ sizeLine; decide), fun l0 hl0 => ⟨_, rfl, l0, _, _, rfl, rfl, upd_same, by omega, by omega, ?_, fun l hl => ?_⟩⟩
    · exact Sd.size1 h0 h1
    have s1 := Sd.Same.new (o := .lst [.int 0]) hl0
    have hl1 := s1.free hl
    have s2 := Sd.Same.new (o := .lst (List.replicate n.toNat [V.int 0]).flatten) hl
    generalize hX : upd (upd _ _ _) _ _ = H2 at s2 ⊢
    have c2 : H2 l = some (.lst ((List.replicate n.toNat (0 : Int)).map V.int)) := by rw [← hX, upd_same, Sd.rep_flat]
    have hp2 := (s1.trans s2) _ _ hp
    refine ⟨_, rfl, p, A_Boxes, dx, [], rfl, hp2, T.cl_Boxes, T.n_Boxes__numbers, (by show 0 < 1000; decide), ?_⟩
    refine q l _ hl1 (fun b o n e => ?_) upd_same ?_
    · rw [upd_ne n]
      exact (s1.trans s2) _ _ e
    · rw [upd_ne (ne_of_none hp hl1).symm]
      exact c2
abbrev N_Hand__init_ : List Str := ["self", "hand", "plan", "many"]
theorem sc_Hand__init_ : FnScope N_Hand__init_ ["self", "hand", "plan", "many"] (defScope s_Hand__init_) := ⟨rfl, rfl, rfl, by decide +kernel, rfl, by decide +kernel, by decide +kernel⟩
theorem ok_Hand__init_ {f : Addr} {fd : FuncData} (F : Fun K "__init__" "Hand.__init__" s_Hand__init_ f fd) (T : (Txt K mg w A_Boxes A_Hand A_Hall A_HandsError A_NoNumber A_NoBox A_NoHand A_NoDeed A_THING_OF A_WITH_A_NUMBER A_TELLING tT tG tH tD tC tL tV tM))
    : FnOk P w K mg base CX0 1 f fd ["self", "hand", "plan", "many"] (Sd.spHandInit A_Hand) := by
  refine F.ok sc_Hand__init_ (fun vs H Q E h => ?_) (fun cdv A outer s H vs Q E hr h => ?_)
  · obtain ⟨p, pl, dx, i, m, ps, plan, rfl, _⟩ := h
    rfl
  · obtain ⟨p, pl, dx, i, m, ps, plan, rfl, hp, hpl, hP, hm, q⟩ := h
    refine ⟨_, (pss_cons (ps_fld (pv 0) (pv 1) rfl)
      (pss_cons (ps_fld (pv 0) (pv 2) rfl)
      (pss_cons (ps_fld (pv 0) (pv 3) rfl)
      (pss_cons (ps_fld (pv 0) pe_int rfl)
      (pss_cons (ps_fld (pv 0) pe_int rfl)
      (pss_cons (ps_fld (pv 0) (pe_op op_rep (pe_lst (pa_cons pe_int pa_nil)) (pv 3)) rfl)
      (pss_cons (ps_fld (pv 0) pe_int rfl)
      (pss_cons (ps_fld (pv 0) pe_non rfl)
      (pss_cons (ps_fld (pv 0) (pe_lst pa_nil) rfl)
      (pss_cons (ps_fld (pv 0) (pe_lst pa_nil) rfl)
      (pss_one (ps_fld (pv 0) pe_int rfl)))))))))))), ?_⟩
    refine ⟨_, rfl, _, rfl, p, A_Hand, dx, _, rfl, hp, T.cl_Hand, T.n_Hand__hand, (by show 0 < 1000; decide), ?_⟩
    refine ⟨_, rfl, _, rfl, p, A_Hand, dx, _, rfl, upd_same, T.cl_Hand, T.n_Hand__plan, (by show 1 < 1000; decide), ?_⟩
    refine ⟨_, rfl, _, rfl, p, A_Hand, dx, _, rfl, upd_same, T.cl_Hand, T.n_Hand__many, (by show 2 < 1000; decide), ?_⟩
    refine ⟨_, rfl, p, A_Hand, dx, _, rfl, upd_same, T.cl_Hand, T.n_Hand__ended, (by show 3 < 1000; decide), ?_⟩
    refine ⟨_, rfl, p, A_Hand, dx, _, rfl, upd_same, T.cl_Hand, T.n_Hand__ones, (by show 4 < 1000; decide), ?_⟩
    generalize hX : upd _ _ _ = H5
    have b5 : Sd.But p H H5 := by
      rw [← hX]
      intro c o n e
      simp only [upd_ne n]
      exact e
    have h5 : H5 p = some (.ins A_Hand dx [(("_hand" : Str), .int i), (("_plan" : Str), .ref pl), (("_many" : Str), .int m), (("_ended" : Str), .int 0), (("_ones" : Str), .int 0)]) := by
      rw [← hX, upd_same]
      rfl
    clear hX
    refine ⟨(by show 1 ≤ sizeLine; decide), fun l0 hl0 => ⟨_, rfl, l0, _, _, rfl, rfl, upd_same, by omega, by omega, Sd.size1 (by omega) (by omega), fun tk htk => ?_⟩⟩
    have s1 := Sd.Same.new (o := .lst [.int 0]) hl0
    have ftk : H5 tk = none := s1.free htk
    have s2 := Sd.Same.new (o := .lst (List.replicate ((m : Nat) : Int).toNat [V.int 0]).flatten) htk
    generalize hX : upd (upd _ _ _) _ _ = H6 at s2 ⊢
    have c6 : H6 tk = some (.lst ((List.replicate m 0).map fun n : Nat => V.int (n : Int))) := by
      rw [← hX, upd_same, Int.toNat_natCast, Sd.rep_flat, List.map_replicate, List.map_replicate]
      rfl
    have s56 := s1.trans s2
    have h6 := s56 _ _ h5
    clear hX
    refine ⟨_, rfl, p, A_Hand, dx, _, rfl, h6, T.cl_Hand, T.n_Hand__took, (by show 5 < 1000; decide), ?_⟩
    refine ⟨_, rfl, p, A_Hand, dx, _, rfl, upd_same, T.cl_Hand, T.n_Hand__begin, (by show 6 < 1000; decide), ?_⟩
    refine ⟨_, rfl, p, A_Hand, dx, _, rfl, upd_same, T.cl_Hand, T.n_Hand__outcome, (by show 7 < 1000; decide), ?_⟩
    generalize hX : upd _ _ _ = H7
    have b7 : Sd.But p H6 H7 := by
      rw [← hX]
      intro c o n e
      simp only [upd_ne n]
      exact e
    have h7 : H7 p = some (.ins A_Hand dx [(("_hand" : Str), .int i), (("_plan" : Str), .ref pl), (("_many" : Str), .int m), (("_ended" : Str), .int 0), (("_ones" : Str), .int 0), (("_took" : Str), .ref tk), (("_begin" : Str), .int 0), (("_outcome" : Str), .non)]) := by
      rw [← hX, upd_same]
      rfl
    clear hX
    have ntk : tk ≠ p := (ne_of_none h5 ftk).symm
    have c7 := b7 _ _ ntk c6
    refine ⟨(by show 0 ≤ sizeLine; decide), fun rd hrd => ?_⟩
    have s8 := Sd.Same.new (o := .lst []) hrd
    have c8 : upd H7 rd (.lst []) rd = some (.lst []) := upd_same
    generalize hX : upd H7 rd (.lst []) = H8 at s8 c8 ⊢
    clear hX
    have h8 := s8 _ _ h7
    have nrd : rd ≠ p := (ne_of_none h7 hrd).symm
    refine ⟨_, rfl, p, A_Hand, dx, _, rfl, h8, T.cl_Hand, T.n_Hand__reading, (by show 8 < 1000; decide), ?_⟩
    generalize hX : upd H8 p _ = H9
    have b9 : Sd.But p H8 H9 := by
      rw [← hX]
      exact Sd.But.upd
    have h9 : H9 p = some (.ins A_Hand dx [(("_hand" : Str), .int i), (("_plan" : Str), .ref pl), (("_many" : Str), .int m), (("_ended" : Str), .int 0), (("_ones" : Str), .int 0), (("_took" : Str), .ref tk), (("_begin" : Str), .int 0), (("_outcome" : Str), .non), (("_reading" : Str), .ref rd)]) := by
      rw [← hX, upd_same]
      rfl
    clear hX
    refine ⟨(by show 0 ≤ sizeLine; decide), fun rs hrs => ?_⟩
    have s10 := Sd.Same.new (o := .lst []) hrs
    have c10 : upd H9 rs (.lst []) rs = some (.lst []) := upd_same
    generalize hX : upd H9 rs (.lst []) = H10 at s10 c10 ⊢
    clear hX
    have h10 := s10 _ _ h9
    have nrs : rs ≠ p := (ne_of_none h9 hrs).symm
    refine ⟨_, rfl, p, A_Hand, dx, _, rfl, h10, T.cl_Hand, T.n_Hand__readings, (by show 9 < 1000; decide), ?_⟩
    refine ⟨_, rfl, p, A_Hand, dx, _, rfl, upd_same, T.cl_Hand, T.n_Hand_steps, (by show 10 < 1000; decide), ?_⟩
    generalize hX : upd _ _ _ = H11
    have b11 : Sd.But p H10 H11 := by
      rw [← hX]
      intro c o n e
      simp only [upd_ne n]
      exact e
    have h11 : H11 p = some (.ins A_Hand dx (Sd.hfs (.int i) (.ref pl) (.int m) (.int 0) (.int 0) (.ref tk) (.int 0) .non (.ref rd) (.ref rs) (.int 0))) := by
      rw [← hX, upd_same]
      rfl
    clear hX
    -- what is free, what differs
    have f7 : ∀ {x : Addr}, x ≠ p → H7 x = none → H x = none := fun {x} n e => by
      cases z : H x with
      | none => rfl
      | some o =>
        rw [b7 _ _ n (s56 _ _ (b5 _ _ n z))] at e
        cases e
    have f9 : H7 rs = none := by
      cases z : H7 rs with
      | none => rfl
      | some o =>
        rw [b9 _ _ nrs (s8 _ _ z)] at hrs
        cases hrs
    have fH : H tk = none := by
      cases z : H tk with
      | none => rfl
      | some o =>
        rw [b5 _ _ ntk z] at ftk
        cases ftk
    have t11 : Sd.But p H H11 := ((((((b5.trans (Sd.Same.but s56)).trans b7).trans (Sd.Same.but s8)).trans b9).trans (Sd.Same.but s10)).trans b11)
    have npl : pl ≠ p := ne_of hpl hp (by intro z; cases z)
    have tu : Sd.Tu H H11 := fun b xs e => t11 _ _ (ne_of e hp (by intro z; cases z)) e
    have n1 : tk ≠ rd := ne_of_none c7 hrd
    have n2 : tk ≠ rs := ne_of_none c7 f9
    have n3 : rd ≠ rs := ne_of_none (b9 _ _ nrd c8) hrs
    have n4 : pl ≠ tk := ne_of_none hpl fH
    have n5 : pl ≠ rd := ne_of_none hpl (f7 nrd hrd)
    have n6 : pl ≠ rs := ne_of_none hpl (f7 nrs f9)
    refine q ⟨p, tk, rd, rs, pl, []⟩ H11 rfl rfl rfl fH (f7 nrd hrd) (f7 nrs f9) t11 ⟨⟨dx, .non, h11, rfl⟩, ⟨ps, t11 _ _ npl hpl, hP.tu tu⟩, ?_, ?_, ?_, .nil, ⟨n1, n2, n3, n4, n5, n6⟩, by simp⟩
    · exact b11 _ _ ntk (s10 _ _ (b9 _ _ ntk (s8 _ _ c7)))
    · exact b11 _ _ nrd (s10 _ _ (b9 _ _ nrd c8))
    · exact b11 _ _ nrs c10
end

section
variable {P : Program} {w : World} {K : PySem.W.Frag} {mg : Str → Option Value} {base : Heap} {A_Boxes A_Hand A_Hall A_HandsError A_NoNumber A_NoBox A_NoHand A_NoDeed A_THING_OF A_WITH_A_NUMBER A_TELLING : Addr} {tT tG tH tD tC tL tV tM : Tok}
abbrev N__need_plans : List Str := ["plans", "hand", "deed"]
theorem sc__need_plans : FnScope N__need_plans ["plans"] (defScope s__need_plans) := ⟨rfl, rfl, rfl, by decide +kernel, rfl, by decide +kernel, by decide +kernel⟩
theorem ok__need_plans {f : Addr} {fd : FuncData} (F : Fun K "_need_plans" "_need_plans" s__need_plans f fd) (T : (Txt K mg w A_Boxes A_Hand A_Hall A_HandsError A_NoNumber A_NoBox A_NoHand A_NoDeed A_THING_OF A_WITH_A_NUMBER A_TELLING tT tG tH tD tC tL tV tM))
    (C_need_deed : Sd.Cal P w K mg base (L2.CX P w) 2 "need_deed" ["deed", "hand"] (Sd.spNeedDeed A_NoDeed))
    : FnOk P w K mg base (L2.CX P w) 3 f fd ["plans"] (Sd.spNeedPlans A_NoHand A_NoDeed) := by
  refine F.okX sc__need_plans (fun vs H Q E h => ?_) (fun cdv A outer s H vs Q E hr h => ?_)
  · obtain ⟨pl, ls, pss, rfl, _⟩ := h
    rfl
  · obtain ⟨pl, ls, pss, rfl, ⟨hpl, hps⟩, hl1, hl2, q⟩ := h
    refine ⟨_, (pss_cons (ps_if (PW.pt (pw_or (pt_cmpR op_eq (pe_callB call_len_seq (by rfl) T.len (by decide +kernel) (pa_cons (pv 0) pa_nil)) pe_int (nomark _)) (pw_or1 (pt_cmpR op_gt (pe_callB call_len_seq (by rfl) T.len (by decide +kernel) (pa_cons (pv 0) pa_nil)) (pe_glob (v := .int 4) rfl T.m_MOST_HANDS ⟨_, rfl⟩) (nomark _)))))
      (pss_one (ps_raise rfl (takes_of rfl rfl rfl rfl) (pmk_own PySem.F.excBase_ValueError T.r_NoHand.ex T.m_NoHand T.r_NoHand.kp (raises_own T.r_NoHand.b T.r_NoHand.t) rfl)))
      pss_nil)
      (pss_one (ps_for (passes_of rfl) rfl (pi_range1 rfl T.range (pa_cons (pe_callB call_len_seq (by rfl) T.len (by decide +kernel) (pa_cons (pv 0) pa_nil)) pa_nil)) (pg_name (i := 1) sc__need_plans.nd rfl (Or.inl rfl))
      (pss_cons (ps_if (pt_cmpR op_gt (pe_callB call_len_seq (by rfl) T.len (by decide +kernel) (pa_cons (pe_ix ix_list (pv 0) (pv 1) (fun _ _ => rfl)) pa_nil)) (pe_glob (v := .int 40) rfl T.m_MOST_DEEDS ⟨_, rfl⟩) (nomark _))
      (pss_one (ps_raise rfl (takes_of rfl rfl rfl rfl) (pmk_own PySem.F.excBase_ValueError T.r_NoDeed.ex T.m_NoDeed T.r_NoDeed.kp (raises_own T.r_NoDeed.b T.r_NoDeed.t) rfl)))
      pss_nil)
      (pss_one (ps_for (passes_of rfl) rfl (pi_list (pe_ix ix_list (pv 0) (pv 1) (fun _ _ => rfl))) (pg_name (i := 2) sc__need_plans.nd rfl (Or.inl rfl))
      (pss_one (ps_expr (Sd.pe_fn C_need_deed (hr.mono (by decide)) (passes_call (takes_of rfl rfl rfl rfl) (fun _ _ _ _ h => h)) (pa_cons (pv 2) (pa_cons (pv 1) pa_nil))))))))))), ?_⟩
    have hlen : (ls.map V.ref).length = pss.length := by rw [List.length_map]; exact Sd.Paired.len hps
    refine ⟨_, rfl, pl, _, rfl, .inl (SqL.of hpl), rfl, _, rfl, ?_⟩
    have no : ∀ {n : Nat}, 0 < n → ¬ (decide (V.int ((n : Nat) : Int) = V.int 0) = true) := fun hn c => by
      have := of_decide_eq_true c
      injection this with e
      omega
    rcases q with ⟨n0, n4, hg, q⟩ | ⟨hn, q⟩ | ⟨n0, n4, ⟨i0, ps0, hi0, hb, hg⟩, q⟩
    · refine ite2 (fun c => absurd c (by rw [hlen]; exact no n0)) (fun _ => ?_)
      refine ⟨_, rfl, pl, _, rfl, .inl (SqL.of hpl), _, _, rfl, rfl, _, rfl, ?_⟩
      refine ite2 (fun c => absurd (of_decide_eq_true c) (by rw [hlen]; omega)) (fun _ => ?_)
      refine ⟨_, rfl, pl, _, rfl, .inl (SqL.of hpl), _, rfl, by omega, by omega, ?_⟩
      refine for_range (lo := 0) (n := ((ls.map V.ref).length : Int).toNat) (fun j σ H' => H' = H ∧ ∃ x y, σ = [some (.ref pl), x, y]) ⟨rfl, none, none, rfl⟩ ?_ (fun σ H' ⟨e, _⟩ => by rw [e]; exact q)
      rintro j σ H' hj ⟨rfl, x, y, rfl⟩
      have hj2 : j < pss.length := by omega
      obtain ⟨l, hl, hlp⟩ := Sd.Paired.get hps (List.getElem?_eq_getElem hj2)
      obtain ⟨g1, g2⟩ := hg j _ (List.getElem?_eq_getElem hj2)
      have e0 : (0 : Int) + (j : Nat) = ((j : Nat) : Int) := Int.zero_add _
      have hat : atI (ls.map V.ref) ((0 : Int) + (j : Nat)) = some (.ref l) := at_of e0 (by rw [List.getElem?_map, hl]; rfl)
      refine ⟨_, rfl, _, rfl, pl, _, _, _, rfl, rfl, SqL.of hpl, hat, l, _, rfl, .inl (SqL.of hlp), _, _, rfl, rfl, _, rfl, ?_⟩
      refine ite2 (fun c => absurd (of_decide_eq_true c) (by rw [List.length_map]; omega)) (fun _ => ?_)
      refine ⟨_, rfl, _, rfl, pl, _, _, _, rfl, rfl, SqL.of hpl, hat, l, rfl, ⟨_, SqL.of hlp⟩, ?_⟩
      refine for_list (K := K) (xs := pss[j].map V.ref) (fun k σ H2 => H2 = H' ∧ ∃ y, σ = [some (.ref pl), some (.int ((0 : Int) + (j : Nat))), y]) ⟨rfl, y, rfl⟩ (fun k σ H2 _ h => by rw [h.1]; exact SqL.of hlp) ?_ (fun σ H2 ⟨e, y2, e2⟩ => ⟨e, _, _, e2⟩)
      rintro k x2 σ H2 hx ⟨rfl, y2, rfl⟩
      rw [List.getElem?_map] at hx
      cases hp : pss[j][k]? with
      | none => rw [hp] at hx; cases hx
      | some p =>
        rw [hp] at hx
        cases hx
        refine ⟨_, rfl, _, rfl, p, _, rfl, .inl ⟨?_, rfl, _, rfl⟩⟩
        rw [e0]
        exact g2 p (List.mem_of_getElem? hp)
    · refine ite2 (fun _ => q) (fun c => ?_)
      refine ⟨_, rfl, pl, _, rfl, .inl (SqL.of hpl), _, _, rfl, rfl, _, rfl, ?_⟩
      refine ite2 (fun _ => q) (fun c2 => ?_)
      exfalso
      rcases hn with hn | hn
      · refine c (decide_eq_true ?_)
        rw [hlen, hn]
        rfl
      · refine c2 (decide_eq_true ?_)
        rw [hlen]
        omega
    · refine ite2 (fun c => absurd c (by rw [hlen]; exact no n0)) (fun _ => ?_)
      refine ⟨_, rfl, pl, _, rfl, .inl (SqL.of hpl), _, _, rfl, rfl, _, rfl, ?_⟩
      refine ite2 (fun c => absurd (of_decide_eq_true c) (by rw [hlen]; omega)) (fun _ => ?_)
      refine ⟨_, rfl, pl, _, rfl, .inl (SqL.of hpl), _, rfl, by omega, by omega, ?_⟩
      have hi1 := (List.getElem?_eq_some_iff.mp hi0).1
      refine for_range (lo := 0) (n := ((ls.map V.ref).length : Int).toNat) (fun j σ H' => j ≤ i0 ∧ H' = H ∧ ∃ x y, σ = [some (.ref pl), x, y]) ⟨Nat.zero_le _, rfl, none, none, rfl⟩ ?_ (fun σ H' ⟨e, _⟩ => absurd e (by omega))
      rintro j σ H' hj ⟨hji, rfl, x, y, rfl⟩
      have hj2 : j < pss.length := by omega
      obtain ⟨l, hl, hlp⟩ := Sd.Paired.get hps (List.getElem?_eq_getElem hj2)
      have e0 : (0 : Int) + (j : Nat) = ((j : Nat) : Int) := Int.zero_add _
      have hat : atI (ls.map V.ref) ((0 : Int) + (j : Nat)) = some (.ref l) := at_of e0 (by rw [List.getElem?_map, hl]; rfl)
      refine ⟨_, rfl, _, rfl, pl, _, _, _, rfl, rfl, SqL.of hpl, hat, l, _, rfl, .inl (SqL.of hlp), _, _, rfl, rfl, _, rfl, ?_⟩
      refine ite2 (fun _ => q) (fun c40 => ?_)
      have c40' : pss[j].length ≤ 40 := by
        rcases Nat.lt_or_ge 40 pss[j].length with z | z
        · exact absurd (decide_eq_true (by rw [List.length_map]; show (40 : Int) < _; omega)) c40
        · exact z
      refine ⟨_, rfl, _, rfl, pl, _, _, _, rfl, rfl, SqL.of hpl, hat, l, rfl, ⟨_, SqL.of hlp⟩, ?_⟩
      refine for_list (K := K) (xs := pss[j].map V.ref) (fun k σ H2 => H2 = H' ∧ (j = i0 → ∃ k0 p0, pss[j][k0]? = some p0 ∧ k ≤ k0 ∧ Sd.Bad H' j p0 ∧ ∀ (m : Nat) (q : Addr), m < k0 → pss[j][m]? = some q → Sd.Good H' j q) ∧ ∃ y, σ = [some (.ref pl), some (.int ((0 : Int) + (j : Nat))), y])
        ⟨rfl, fun e => ?_, y, rfl⟩ (fun k σ H2 _ h => by rw [h.1]; exact SqL.of hlp) ?_ (fun σ H2 ⟨e, hk, y2, e2⟩ => ⟨?_, e, _, _, e2⟩)
      · subst e
        have ep : pss[j] = ps0 := Option.some.inj ((List.getElem?_eq_getElem hj2).symm.trans hi0)
        rcases hb with hb | ⟨k0, p0, hk, hbb, hgg⟩
        · have := congrArg List.length ep
          omega
        · rw [ep]
          exact ⟨k0, p0, hk, Nat.zero_le _, hbb, hgg⟩
      · rintro k x2 σ H2 hx ⟨rfl, hk, y2, rfl⟩
        rw [List.getElem?_map] at hx
        cases hp : pss[j][k]? with
        | none => rw [hp] at hx; cases hx
        | some p =>
          rw [hp] at hx
          cases hx
          by_cases ej : j = i0
          · obtain ⟨k0, p0, h1, h2, h3, h4⟩ := hk ej
            by_cases ek : k = k0
            · subst ek
              rw [hp] at h1
              cases h1
              refine ⟨_, rfl, _, rfl, p, _, rfl, .inr ⟨?_, q⟩⟩
              rw [e0]
              exact h3
            · refine ⟨_, rfl, _, rfl, p, _, rfl, .inl ⟨?_, rfl, fun _ => ⟨k0, p0, h1, by omega, h3, h4⟩, _, rfl⟩⟩
              rw [e0]
              exact h4 k p (by omega) hp
          · refine ⟨_, rfl, _, rfl, p, _, rfl, .inl ⟨?_, rfl, fun z => absurd z ej, _, rfl⟩⟩
            rw [e0]
            exact (hg j _ (by omega) (List.getElem?_eq_getElem hj2)).2 p (List.mem_of_getElem? hp)
      · by_cases ej : j = i0
        · obtain ⟨k0, p0, h1, h2, _⟩ := hk ej
          have := (List.getElem?_eq_some_iff.mp h1).1
          rw [List.length_map] at h2
          omega
        · omega
end

section
variable {P : Program} {w : World} {K : PySem.W.Frag} {mg : Str → Option Value} {base : Heap} {A_Boxes A_Hand A_Hall A_HandsError A_NoNumber A_NoBox A_NoHand A_NoDeed A_THING_OF A_WITH_A_NUMBER A_TELLING : Addr} {tT tG tH tD tC tL tV tM : Tok}
abbrev N_Hall__init_ : List Str := ["self", "plans", "many", "hand"]
theorem sc_Hall__init_ : FnScope N_Hall__init_ ["self", "plans"] (defScope s_Hall__init_) := ⟨rfl, rfl, rfl, by decide +kernel, rfl, by decide +kernel, by decide +kernel⟩
theorem ok_Hall__init_ {f : Addr} {fd : FuncData} (F : Fun K "__init__" "Hall.__init__" s_Hall__init_ f fd) (T : (Txt K mg w A_Boxes A_Hand A_Hall A_HandsError A_NoNumber A_NoBox A_NoHand A_NoDeed A_THING_OF A_WITH_A_NUMBER A_TELLING tT tG tH tD tC tL tV tM))
    (C__need_plans : Sd.Cal P w K mg base (L2.CX P w) 3 "_need_plans" ["plans"] (Sd.spNeedPlans A_NoHand A_NoDeed))
    (C_Boxes : Sd.CalI P w K mg base CX0 1 "Boxes" A_Boxes ["self", "many"] (Sd.spBInit A_Boxes))
    (C_Hand : Sd.CalI P w K mg base CX0 1 "Hand" A_Hand ["self", "hand", "plan", "many"] (Sd.spHandInit A_Hand))
    : FnOk P w K mg base (L2.CX P w) 4 f fd ["self", "plans"] (Sd.spHallInit A_Boxes A_Hand A_Hall A_NoHand A_NoDeed) := by
  refine F.okX sc_Hall__init_ (fun vs H Q E h => ?_) (fun cdv A outer s H vs Q E hr h => ?_)
  · obtain ⟨p, dx, pl, ls, pss, rfl, _⟩ := h
    rfl
  · obtain ⟨p, dx, pl, ls, pss, rfl, hp, hP, hl1, hl2, q⟩ := h
    refine ⟨_, (pss_cons (ps_expr (Sd.pe_fn C__need_plans (hr.mono (by decide)) (passes_call (takes_of rfl rfl rfl rfl) (fun _ _ _ _ h => h)) (pa_cons (pv 1) pa_nil)))
      (pss_cons (ps_set (i := 2) sc_Hall__init_.nd rfl (Or.inr rfl) (pe_callB call_len_seq (by rfl) T.len (by decide +kernel) (pa_cons (pv 1) pa_nil)))
      (pss_cons (ps_fld (pv 0) (Sd.pe_mk C_Boxes (hr.mono (by decide)) pass0 (pa_cons (pe_op op_mul (pe_glob (v := .int 5) rfl T.m_THINGS ⟨_, rfl⟩) (pv 2)) pa_nil)) rfl)
      (pss_cons (ps_fld (pv 0) (pe_lc (own := [("hand", 3)]) (g := gName 3) (by rfl) sc_Hall__init_.nd (pi_range1 rfl T.range (pa_cons (pv 2) pa_nil)) (blkOk_by (own := [("hand", 3)]) (N := N_Hall__init_) (sc := defScope s_Hall__init_) (by decide +kernel)) (fun _ _ _ _ _ => pg_name (i := 3) sc_Hall__init_.nd rfl (Or.inl rfl)) (fun _ _ _ _ _ => pts_nil) (fun _ _ _ _ _ => (Sd.pe_mk C_Hand (hr.mono (by decide)) pass0 (pa_cons (pv 3) (pa_cons (pe_callTy (Sd.call_list_ofK (K := K) rfl) (by rfl) T.list (by decide +kernel) (pa_cons (pe_ix (Sd.ixK (K := K) (r := rIxL) ix_list rfl) (pv 1) (pv 3) (fun _ _ => rfl)) pa_nil)) (pa_cons (pv 2) pa_nil)))))) rfl)
      (pss_cons (ps_fld (pv 0) (pe_lst pa_nil) rfl)
      (pss_cons (ps_fld (pv 0) (pe_lst pa_nil) rfl)
      (pss_one (ps_fld (pv 0) (pe_lst pa_nil) rfl)))))))), ?_⟩
    refine ⟨_, rfl, pl, ls, pss, rfl, hP, hl1, hl2, ?_⟩
    rcases q with ⟨plans, n0, n4, hg, hpp, q⟩ | ⟨hn, q⟩ | ⟨n0, n4, hb, q⟩
    · refine .inl ⟨n0, n4, hg, ?_⟩
      have hlen : (ls.map V.ref).length = pss.length := by rw [List.length_map]; exact Sd.Paired.len hP.2
      have hlenp : pss.length = plans.length := Sd.Paired.len hpp
      refine ⟨_, rfl, pl, _, rfl, .inl (SqL.of hP.1), ?_⟩
      rw [hlen]
      -- the boxes
      refine ⟨_, rfl, _, _, rfl, rfl, .inl ⟨by decide, by decide⟩, fun b dxb nb ndb nx => ⟨b, dxb, _, rfl, by omega, by omega, upd_same, fun bl H1 hbl bt1 hb1 hbl1 => ⟨rfl, ?_⟩⟩⟩
      have s1 : Same H H1 := Sd.made_same nb ndb bt1
      have fbl : H bl = none := Sd.made_free nb ndb hbl
      have hp1 := s1 _ _ hp
      refine ⟨_, rfl, p, A_Hall, dx, _, rfl, hp1, T.cl_Hall, T.n_Hall__boxes, (by show 0 < 1000; decide), ?_⟩
      have npb : b ≠ p := ne_of_none hp nb |>.symm
      have npbl : bl ≠ p := ne_of_none hp fbl |>.symm
      have nbbl : b ≠ bl := ne_of hb1 hbl1 (by intro z; cases z)
      generalize hX : upd H1 p _ = H2
      have b2 : Sd.But p H1 H2 := by rw [← hX]; exact Sd.But.upd
      have hp2 : H2 p = some (.ins A_Hall dx [(("_boxes" : Str), .ref b)]) := by rw [← hX, upd_same]; rfl
      clear hX
      have hb2 := b2 _ _ npb hb1
      have hbl2 := b2 _ _ npbl hbl1
      have b02 : Sd.But p H H2 := (Sd.Same.but s1).trans b2
      have tu02 : Sd.Tu H H2 := fun x xs e => b02 _ _ (ne_of e hp (by intro z; cases z)) e
      have f02 : ∀ {x : Addr}, H2 x = none → H x = none := fun {x} e => by
        cases z : H x with
        | none => rfl
        | some o =>
          have n : x ≠ p := fun y => by rw [y, hp2] at e; cases e
          rw [b02 _ _ n z] at e
          cases e
      -- the hands
      refine ⟨_, rfl, _, rfl, by omega, by omega, fun D hD => ?_⟩
      refine lc_range (lo := 0) (n := ((pss.length : Nat) : Int).toNat) (fun i H' => Same H2 H' ∧ ∃ gs : List Sd.HG, gs.length = i ∧ Sd.Made A_Hand H2 H' D gs pss.length plans)
        ⟨Sd.Same.new hD, [], rfl, ⟨upd_same, fun i x h => (by rw [List.getElem?_nil] at h; cases h), fun x h => (List.not_mem_nil h).elim, fun i j x z n h => (by rw [List.getElem?_nil] at h; cases h)⟩⟩ ?_ ?_
      · rintro i H' hi ⟨s2, gs, hgl, M⟩
        have hi2 : i < pss.length := by omega
        have e0 : (0 : Int) + (i : Nat) = ((i : Nat) : Int) := Int.zero_add _
        obtain ⟨l, hl, hlp⟩ := Sd.Paired.get hP.2 (List.getElem?_eq_getElem hi2)
        obtain ⟨pln, hpln, hPl⟩ := Sd.Paired.get2 hpp (List.getElem?_eq_getElem hi2)
        have npl : pl ≠ p := ne_of hP.1 hp (by intro z; cases z)
        have nl : l ≠ p := ne_of hlp hp (by intro z; cases z)
        have hpl' := s2 _ _ (b02 _ _ npl hP.1)
        have hlp' := s2 _ _ (b02 _ _ nl hlp)
        have tu0 : Sd.Tu H H' := tu02.trans (Sd.Tu.same s2)
        refine ⟨rfl, _, rfl, _, rfl, _, rfl, pl, _, _, _, rfl, rfl, SqL.of hpl', at_of e0 (by rw [List.getElem?_map, hl]; rfl), l, _, rfl, .inl (SqL.of hlp'), fun cp hcp => ⟨_, rfl, ?_⟩⟩
        have s3 := Sd.Same.new (o := .lst (pss[i].map V.ref)) hcp
        have c3 : upd H' cp (.lst (pss[i].map V.ref)) cp = some (.lst (pss[i].map V.ref)) := upd_same
        generalize upd H' cp (.lst (pss[i].map V.ref)) = H3 at s3 c3 ⊢
        refine fun hb dxh nh ndh nxh => ⟨hb, cp, dxh, i, pss.length, pss[i], pln, by rw [e0]; rfl, upd_same, ?_, hPl.tu (tu0.trans ((Sd.Tu.same s3).trans ?_)), by omega, fun g H4 g1 g2 g3 g4 g5 g6 bt4 hH => ⟨rfl, ?_⟩⟩
        · rw [upd_ne (ne_of_none c3 nh), upd_ne (ne_of_none c3 ndh)]
          exact c3
        · intro x xs e
          rw [upd_ne (ne_of_none e nh), upd_ne (ne_of_none e ndh)]
          exact e
        have s4 : Same H3 H4 := Sd.made_same nh ndh bt4
        have ff : ∀ y ∈ g.list, H' y = none := by
          intro y hy
          simp only [Sd.HG.list, List.mem_cons] at hy
          rcases hy with rfl | rfl | rfl | rfl | rfl | hy
          · rw [g1]; exact s3.free nh
          · exact s3.free (Sd.made_free nh ndh g4)
          · exact s3.free (Sd.made_free nh ndh g5)
          · exact s3.free (Sd.made_free nh ndh g6)
          · rw [g2]; exact hcp
          · rw [g3] at hy; cases hy
        have nD : D ∉ g.list := fun mm => by
          have := ff D mm
          rw [M.lst] at this
          cases this
        have epl : plans.getD gs.length [] = pln := by rw [hgl, List.getD_eq_getElem?_getD, hpln]; rfl
        have M2 := M.add s2 (s3.trans s4) (by rw [epl, hgl]; exact hH) ff nD
        rw [g1] at M2
        refine ⟨_, (s3.trans s4) _ _ M.lst, by rw [List.length_map, hgl]; exact small1000 (by omega), ?_, gs ++ [g], by rw [List.length_append, hgl]; rfl, M2⟩
        intro x o e
        rw [upd_ne (ne_of_none e hD)]
        exact ((s2.trans s3).trans s4) _ _ e
      rintro H3 ⟨s3, gs, hgl, M⟩
      have hp3 := s3 _ _ hp2
      have hgl' : gs.length = pss.length := by omega
      refine ⟨_, rfl, p, A_Hall, dx, _, rfl, hp3, T.cl_Hall, T.n_Hall__hands, (by show 1 < 1000; decide), ?_⟩
      generalize hX : upd H3 p _ = H4
      have b4 : Sd.But p H3 H4 := by rw [← hX]; exact Sd.But.upd
      have hp4 : H4 p = some (.ins A_Hall dx [(("_boxes" : Str), .ref b), (("_hands" : Str), .ref D)]) := by rw [← hX, upd_same]; rfl
      clear hX
      refine ⟨(by show 0 ≤ sizeLine; decide), fun rc hrc => ?_⟩
      have s5 := Sd.Same.new (o := .lst []) hrc
      have c5 : upd H4 rc (.lst []) rc = some (.lst []) := upd_same
      generalize upd H4 rc (.lst []) = H5 at s5 c5 ⊢
      have nrc : rc ≠ p := (ne_of_none hp4 hrc).symm
      refine ⟨_, rfl, p, A_Hall, dx, _, rfl, s5 _ _ hp4, T.cl_Hall, T.n_Hall__records, (by show 2 < 1000; decide), ?_⟩
      generalize hX : upd H5 p _ = H6
      have b6 : Sd.But p H5 H6 := by rw [← hX]; exact Sd.But.upd
      have hp6 : H6 p = some (.ins A_Hall dx [(("_boxes" : Str), .ref b), (("_hands" : Str), .ref D), (("_records" : Str), .ref rc)]) := by rw [← hX, upd_same]; rfl
      clear hX
      refine ⟨(by show 0 ≤ sizeLine; decide), fun mr hmr => ?_⟩
      have s7 := Sd.Same.new (o := .lst []) hmr
      have c7 : upd H6 mr (.lst []) mr = some (.lst []) := upd_same
      generalize upd H6 mr (.lst []) = H7 at s7 c7 ⊢
      have nmr : mr ≠ p := (ne_of_none hp6 hmr).symm
      refine ⟨_, rfl, p, A_Hall, dx, _, rfl, s7 _ _ hp6, T.cl_Hall, T.n_Hall__marks, (by show 3 < 1000; decide), ?_⟩
      generalize hX : upd H7 p _ = H8
      have b8 : Sd.But p H7 H8 := by rw [← hX]; exact Sd.But.upd
      have hp8 : H8 p = some (.ins A_Hall dx [(("_boxes" : Str), .ref b), (("_hands" : Str), .ref D), (("_records" : Str), .ref rc), (("_marks" : Str), .ref mr)]) := by rw [← hX, upd_same]; rfl
      clear hX
      refine ⟨(by show 0 ≤ sizeLine; decide), fun tc htc => ?_⟩
      have s9 := Sd.Same.new (o := .lst []) htc
      have c9 : upd H8 tc (.lst []) tc = some (.lst []) := upd_same
      generalize upd H8 tc (.lst []) = H9 at s9 c9 ⊢
      have ntc : tc ≠ p := (ne_of_none hp8 htc).symm
      refine ⟨_, rfl, p, A_Hall, dx, _, rfl, s9 _ _ hp8, T.cl_Hall, T.n_Hall__touches, (by show 4 < 1000; decide), ?_⟩
      generalize hX : upd H9 p _ = H10
      have b10 : Sd.But p H9 H10 := by rw [← hX]; exact Sd.But.upd
      have hp10 : H10 p = some (.ins A_Hall dx (Sd.gfs (.ref b) (.ref D) (.ref rc) (.ref mr) (.ref tc))) := by rw [← hX, upd_same]; rfl
      clear hX
      -- all together
      have b46 : Sd.But p H4 H6 := (Sd.Same.but s5).trans b6
      have b48 : Sd.But p H4 H8 := (b46.trans (Sd.Same.but s7)).trans b8
      have b4a : Sd.But p H4 H10 := (b48.trans (Sd.Same.but s9)).trans b10
      have b3a : Sd.But p H3 H10 := b4.trans b4a
      have b0a : Sd.But p H H10 := ((b02.trans (Sd.Same.but s3)).trans b3a)
      have tu3a : Sd.Tu H3 H10 := fun x xs e => b3a _ _ (ne_of e hp3 (by intro z; cases z)) e
      have fr : ∀ {G : Hp} {x : Addr}, Sd.But p H G → x ≠ p → G x = none → H x = none := fun {G x} bt n e => by
        cases z : H x with
        | none => rfl
        | some o => rw [bt _ _ n z] at e; cases e
      have fr3 : ∀ {G : Hp} {x y : Addr} {o : HO}, Sd.But p H3 G → H3 y = some o → y ≠ p → G x = none → y ≠ x := fun bt e n h => ne_of_none (bt _ _ n e) h
      have b34 : Sd.But p H3 H4 := b4
      have b36 : Sd.But p H3 H6 := b4.trans b46
      have b38 : Sd.But p H3 H8 := b4.trans b48
      have hb3 := s3 _ _ hb2
      have hbl3 := s3 _ _ hbl2
      have nDp : D ≠ p := (ne_of_none hp2 hD).symm
      have n1 : bl ≠ D := ne_of_none hbl2 hD
      have n2 : rc ≠ mr := ne_of_none (b6 _ _ nrc c5) hmr
      have n3 : rc ≠ tc := ne_of_none (b8 _ _ nrc (s7 _ _ (b6 _ _ nrc c5))) htc
      have n4 : mr ≠ tc := ne_of_none (b8 _ _ nmr c7) htc
      refine q ⟨p, b, bl, D, rc, mr, tc, gs⟩ H10 rfl ?_ b0a ?_
      · intro x hx hxp
        simp only [Sd.HallG.list, Sd.HallG.own, List.mem_append, List.mem_cons, List.not_mem_nil, or_false, List.mem_flatMap] at hx
        rcases hx with (rfl | rfl | rfl | rfl | rfl | rfl | rfl) | ⟨y, hy, hxy⟩
        · exact absurd rfl hxp
        · exact nb
        · exact fbl
        · exact f02 hD
        · exact fr ((b02.trans (Sd.Same.but s3)).trans b4) nrc hrc
        · exact fr (((b02.trans (Sd.Same.but s3)).trans b4).trans b46) nmr hmr
        · exact fr (((b02.trans (Sd.Same.but s3)).trans b4).trans b48) ntc htc
        · exact f02 (M.free y hy x (by simp only [Sd.HG.list, List.mem_cons]; exact hxy)).1
      · have hands : ∀ (i : Nat) (x : Sd.HG), gs[i]? = some x → ∀ y ∈ x.list, y ≠ p := fun i x hx y hy z => by
          have := (M.free x (List.mem_of_getElem? hx) y hy).1
          rw [z, hp2] at this
          cases this
        have o3a : Sd.Off [p] H3 H10 := fun c o n e => b3a c o (fun z => n (by rw [z]; exact List.mem_singleton.mpr rfl)) e
        refine ⟨⟨dx, hp10⟩, ⟨dxb, b3a _ _ npb hb3⟩, ?_, ?_, ⟨[], ?_, .nil⟩, ⟨[], ?_, .nil⟩, ⟨[], b10 _ _ ntc c9, .nil⟩, ?_, ?_, ⟨?_, npb.symm⟩, ?_, M.sep⟩
        · have e : H10 bl = _ := b3a _ _ npbl hbl3
          refine e.trans ?_
          show some (HO.lst ((List.replicate _ (0 : Int)).map V.int)) = some (HO.lst ((List.replicate (5 * plans.length) (0 : Int)).map V.int))
          rw [show ((5 : Int) * ((pss.length : Nat) : Int)).toNat = 5 * plans.length by omega]
        · exact b3a _ _ nDp M.lst
        · exact b10 _ _ nrc (s9 _ _ (b8 _ _ nrc (s7 _ _ (b6 _ _ nrc c5))))
        · exact b10 _ _ nmr (s9 _ _ (b8 _ _ nmr c7))
        · show gs.length = plans.length
          omega
        · intro i x hx
          have hi : i < pss.length := by
            have := (List.getElem?_eq_some_iff.mp hx).1
            rw [← hgl']
            exact this
          have e1 : (Sd.HallM.new plans).hand i = Sd.HandM.new pss.length := by
            show (List.replicate plans.length (Sd.HandM.new plans.length)).getD i (Sd.HandM.new 0) = _
            rw [List.getD_eq_getElem?_getD, List.getElem?_replicate, if_pos (by omega), hlenp]
            rfl
          rw [e1]
          have e2 : (Sd.HallM.new plans).many = pss.length := hlenp.symm
          rw [e2]
          exact (M.hand i x hx).off o3a (fun y hy mm => hands i x hx y hy (List.mem_singleton.mp mm)) tu3a
        · have m1 : bl ≠ rc := fr3 b34 hbl3 npbl hrc
          have m2 : bl ≠ mr := fr3 b36 hbl3 npbl hmr
          have m3 : bl ≠ tc := fr3 b38 hbl3 npbl htc
          have m4 : D ≠ rc := fr3 b34 M.lst nDp hrc
          have m5 : D ≠ mr := fr3 b36 M.lst nDp hmr
          have m6 : D ≠ tc := fr3 b38 M.lst nDp htc
          simp only [List.nodup_cons, List.mem_cons, List.not_mem_nil, or_false, not_or, not_false_eq_true, List.nodup_nil, and_true]
          exact ⟨⟨n1, m1, m2, m3⟩, ⟨m4, m5, m6⟩, ⟨n2, n3⟩, n4⟩
        · intro i x hx y hy mm
          have h2 := (M.free x (List.mem_of_getElem? hx) y hy)
          obtain ⟨o, ho⟩ := (M.hand i x hx).tracked y hy
          have hyp := hands i x hx y hy
          simp only [Sd.HallG.own, List.mem_cons, List.not_mem_nil, or_false] at mm
          rcases mm with rfl | rfl | rfl | rfl | rfl | rfl | rfl
          · exact hyp rfl
          · rw [hb2] at h2; cases h2.1
          · rw [hbl2] at h2; cases h2.1
          · exact h2.2 rfl
          · exact fr3 b34 ho hyp hrc rfl
          · exact fr3 b36 ho hyp hmr rfl
          · exact fr3 b38 ho hyp htc rfl
    · exact .inr (.inl ⟨hn, q⟩)
    · exact .inr (.inr ⟨n0, n4, hb, q _ (Same.refl _)⟩)
abbrev N_Hall_records : List Str := ["self"]
theorem sc_Hall_records : FnScope N_Hall_records ["self"] (defScope s_Hall_records) := ⟨rfl, rfl, rfl, by decide +kernel, rfl, by decide +kernel, by decide +kernel⟩
theorem ok_Hall_records {f : Addr} {fd : FuncData} (F : Fun K "records" "Hall.records" s_Hall_records f fd) (T : (Txt K mg w A_Boxes A_Hand A_Hall A_HandsError A_NoNumber A_NoBox A_NoHand A_NoDeed A_THING_OF A_WITH_A_NUMBER A_TELLING tT tG tH tD tC tL tV tM))
    : FnOk P w K mg base CX0 1 f fd ["self"] (Sd.spRecords A_Boxes A_Hand A_Hall) := by
  refine F.ok sc_Hall_records (fun vs H Q E h => ?_) (fun cdv A outer s H vs Q E hr h => ?_)
  · obtain ⟨g, s, rfl, _⟩ := h
    rfl
  · obtain ⟨g, s, rfl, hA, q⟩ := h
    refine ⟨_, (pss_one (ps_ret (pe_callTy call_list_of (by rfl) T.list (by decide +kernel) (pa_cons (pe_fld (pv 0) rfl) pa_nil)))), ?_⟩
    obtain ⟨dx, hob⟩ := hA.ob
    obtain ⟨vs, hrc, hvs⟩ := hA.rc
    exact ⟨_, rfl, g.ha, A_Hall, dx, _, _, rfl, hob, T.cl_Hall, T.n_Hall__records, rfl, g.rc, _, rfl, .inl (SqL.of hrc), fun l hl => q l vs hl hvs⟩
end

section
variable {P : Program} {w : World} {K : PySem.W.Frag} {mg : Str → Option Value} {base : Heap} {A_Boxes A_Hand A_Hall A_HandsError A_NoNumber A_NoBox A_NoHand A_NoDeed A_THING_OF A_WITH_A_NUMBER A_TELLING : Addr} {tT tG tH tD tC tL tV tM : Tok}
abbrev N_packed : List Str := ["row", "told", "number"]
theorem sc_packed : FnScope N_packed ["row"] (defScope s_packed) := ⟨rfl, rfl, rfl, by decide +kernel, rfl, by decide +kernel, by decide +kernel⟩
theorem ok_packed {f : Addr} {fd : FuncData} (F : Fun K "packed" "packed" s_packed f fd) (T : (Txt K mg w A_Boxes A_Hand A_Hall A_HandsError A_NoNumber A_NoBox A_NoHand A_NoDeed A_THING_OF A_WITH_A_NUMBER A_TELLING tT tG tH tD tC tL tV tM))
    : FnOk P w K mg base CX0 1 f fd ["row"] (Sd.spPacked K) := by
  refine F.ok sc_packed (fun vs H Q E h => ?_) (fun cdv A outer s H vs Q E hr h => ?_)
  · obtain ⟨a, row, rfl, _⟩ := h
    rfl
  · obtain ⟨a, row, rfl, hS, h6, q⟩ := h
    refine ⟨_, (pss_cons (ps_set (i := 1) sc_packed.nd rfl (Or.inl rfl) pe_int)
      (pss_cons (ps_for PassesOwn.never rfl (pi_reversed (by rfl) T.reversed (pa_cons (pv 0) pa_nil)) (pg_name (i := 2) sc_packed.nd rfl (Or.inl rfl))
      (pss_cons (ps_if (PW.pt (pw_or (pt_cmpR op_lt (pv 2) pe_int (nomark _)) (pw_or1 (pt_cmpR op_ge (pv 2) (pe_glob (v := .int 1000000) rfl T.m_LIMIT ⟨_, rfl⟩) (nomark _)))))
      (pss_one ps_never)
      pss_nil)
      (pss_one (ps_set (i := 1) sc_packed.nd rfl (Or.inl rfl) (pe_op op_add (pv 2) (pe_op op_mul (pe_glob (v := .int 1000000) rfl T.m_LIMIT ⟨_, rfl⟩) (pv 1)))))))
      (pss_one (ps_ret (pv 1))))), ?_⟩
    refine ⟨_, rfl, a, _, rfl, hS, ?_⟩
    refine RT.for_Itv (K := K) (a := a) (xs := row.map V.int) (fun i σ H' => H' = H ∧ ∃ v, σ = [some (.ref a), some (.int (Sd.enc (row.drop (row.length - i)))), v]) ?_ ?_ ?_ ?_
    · refine ⟨rfl, none, ?_⟩
      rw [Nat.sub_zero, List.drop_length]
      rfl
    · rintro i σ H' ⟨rfl, _⟩
      exact hS
    · rintro i x σ H' hi hx ⟨rfl, v, rfl⟩
      rw [List.length_map] at hi hx
      obtain ⟨y, hy, rfl⟩ := Sd.ints_got hx
      have hb := h6.get hy
      refine ⟨_, rfl, _, _, rfl, rfl, _, rfl, ?_⟩
      refine ite2 (fun c => absurd (of_decide_eq_true c) (by omega)) (fun _ => ?_)
      refine ⟨_, rfl, _, _, rfl, rfl, _, rfl, ?_⟩
      refine ite2 (fun c => absurd (of_decide_eq_true c) (by omega)) (fun _ => ?_)
      refine ⟨_, rfl, _, rfl, _, _, rfl, rfl, .inl ⟨by decide, by decide⟩, _, _, rfl, rfl, ?_⟩
      refine ⟨rfl, some (.int y), ?_⟩
      have e1 : row.length - (i + 1) = row.length - 1 - i := by omega
      have e2 : row.length - 1 - i + 1 = row.length - i := by omega
      have e := Sd.enc_drop hy
      rw [e2] at e
      rw [e1, e]
      rfl
    · rintro σ H' ⟨rfl, v, rfl⟩
      rw [List.length_map, Nat.sub_self]
      exact ⟨_, rfl, q⟩
abbrev N_parted : List Str := ["number", "row", "rest"]
theorem sc_parted : FnScope N_parted ["number"] (defScope s_parted) := ⟨rfl, rfl, rfl, by decide +kernel, rfl, by decide +kernel, by decide +kernel⟩
theorem ok_parted {f : Addr} {fd : FuncData} (F : Fun K "parted" "parted" s_parted f fd) (T : (Txt K mg w A_Boxes A_Hand A_Hall A_HandsError A_NoNumber A_NoBox A_NoHand A_NoDeed A_THING_OF A_WITH_A_NUMBER A_TELLING tT tG tH tD tC tL tV tM))
    : FnOk P w K mg base CX0 1 f fd ["number"] (Sd.spParted) := by
  refine F.ok sc_parted (fun vs H Q E h => ?_) (fun cdv A outer s H vs Q E hr h => ?_)
  · obtain ⟨n, row, rfl, _⟩ := h
    rfl
  · obtain ⟨n, row, rfl, h6, hl, hn, q⟩ := h
    refine ⟨_, (pss_cons (ps_set (i := 1) sc_parted.nd rfl (Or.inl rfl) (pe_lst pa_nil))
      (pss_cons (ps_set (i := 2) sc_parted.nd rfl (Or.inl rfl) (pv 0))
      (pss_cons (ps_while PassesOwn.never (pt_cmpR op_gt (pv 2) pe_int (nomark _))
      (pss_cons (ps_expr (pe_bm PySem.F.plainAttrs_list PySem.F.slot_list_append PySem.F.type_list_append mt_append (pv 1) (pa_cons (pe_op op_mod (pv 2) (pe_glob (v := .int 1000000) rfl T.m_LIMIT ⟨_, rfl⟩)) pa_nil)))
      (pss_one (ps_set (i := 2) sc_parted.nd rfl (Or.inl rfl) (pe_op op_fdiv (pv 2) (pe_glob (v := .int 1000000) rfl T.m_LIMIT ⟨_, rfl⟩))))))
      (pss_one (ps_ret (pv 1)))))), ?_⟩
    refine ⟨Nat.zero_le _, fun p hp => ⟨_, rfl, ?_⟩⟩
    refine ⟨fun m σ H' => ∃ (k : Nat) (r : Int), m = row.length - k ∧ k ≤ row.length ∧ σ = [some (.int n), some (.ref p), some (.int r)] ∧ (r = Sd.enc (row.drop k) ∨ (r = 0 ∧ row = [])) ∧ (∀ b, b ≠ p → H' b = H b) ∧ H' p = some (.lst ((row.take k).map V.int)),
      ⟨_, 0, n, rfl, Nat.zero_le _, rfl, hn, fun b e => upd_ne e, upd_same⟩, ?_⟩
    rintro m σ H' ⟨k, r, rfl, hk, rfl, hr', hb, hL⟩
    refine ⟨_, rfl, _, _, rfl, rfl, _, rfl, ?_⟩
    refine ite2 (fun c => ?_) (fun c => ?_)
    · have c' := of_decide_eq_true c
      have hk2 : k < row.length := by
        rcases hr' with e | ⟨e, _⟩
        · by_cases z : k < row.length
          · exact z
          · have e0 : row.drop k = [] := List.drop_eq_nil_of_le (by omega)
            rw [e0] at e
            rw [e] at c'
            exact absurd c' (by decide)
        · rw [e] at c'
          exact absurd c' (by decide)
      have hr2 : r = Sd.enc (row.drop k) := by
        rcases hr' with e | ⟨_, e⟩
        · exact e
        · rw [e] at hk2
          exact absurd hk2 (Nat.not_lt_zero _)
      have hg : row[k]? = some row[k] := List.getElem?_eq_getElem hk2
      have hd := Sd.drop_at hg
      have hi : Sd.In6 (row[k] :: row.drop (k + 1)) := by
        rw [← hd]
        exact h6.drop k
      have em : r % 1000000 = row[k] := by
        rw [hr2, hd]
        exact Sd.enc_mod hi
      have ed : r / 1000000 = Sd.enc (row.drop (k + 1)) := by
        rw [hr2, hd]
        exact Sd.enc_div hi
      refine ⟨_, fun σ' H2 z => z, ?_⟩
      refine ⟨_, rfl, .inl ⟨rfl, _, SqL.of hL⟩, _, rfl, _, _, rfl, rfl, (by show (0 : Int) < 1000000; decide), p, _, _, rfl, rfl, hL, ?_, ?_⟩
      · rw [List.length_map, List.length_take]
        exact small1000 (by omega)
      · refine ⟨_, rfl, _, _, rfl, rfl, ⟨by decide, by decide⟩, ?_⟩
        refine ⟨row.length - (k + 1), by omega, k + 1, _, rfl, hk2, rfl, .inl ed, fun b e => ?_, ?_⟩
        · rw [upd_ne e]
          exact hb b e
        · rw [upd_same]
          show some (HO.lst (List.map V.int (List.take k row) ++ [V.int (r % 1000000)])) = _
          rw [em, Sd.take_at hg, List.map_append]
          rfl
    · have c' : ¬ (1 < r) := fun z => c (decide_eq_true z)
      refine ⟨_, rfl, q p hp H' (fun b o e => ?_) ?_⟩
      · rw [hb b (ne_of_none e hp)]
        exact e
      · rw [hL]
        have ek : row.take k = row := by
          rcases hr' with e | ⟨_, e⟩
          · by_cases z : k < row.length
            · have hg : row[k]? = some row[k] := List.getElem?_eq_getElem z
              have hd := Sd.drop_at hg
              have hi : Sd.In6 (row[k] :: row.drop (k + 1)) := by
                rw [← hd]
                exact h6.drop k
              have z2 := Sd.enc_big hi
              rw [← hd, ← e] at z2
              exact absurd z2 c'
            · exact List.take_of_length_le (by omega)
          · rw [e]
            exact List.take_nil
        rw [ek]
end

section
variable {P : Program} {w : World} {K : PySem.W.Frag} {mg : Str → Option Value} {base : Heap} {A_Boxes A_Hand A_Hall A_HandsError A_NoNumber A_NoBox A_NoHand A_NoDeed A_THING_OF A_WITH_A_NUMBER A_TELLING : Addr} {tT tG tH tD tC tL tV tM : Tok}
abbrev N_counter_outcome : List Str := ["deed", "ones", "readings", "counted"]
theorem sc_counter_outcome : FnScope N_counter_outcome ["deed", "ones", "readings"] (defScope s_counter_outcome) := ⟨rfl, rfl, rfl, by decide +kernel, rfl, by decide +kernel, by decide +kernel⟩
theorem ok_counter_outcome {f : Addr} {fd : FuncData} (F : Fun K "counter_outcome" "counter_outcome" s_counter_outcome f fd) (T : (Txt K mg w A_Boxes A_Hand A_Hall A_HandsError A_NoNumber A_NoBox A_NoHand A_NoDeed A_THING_OF A_WITH_A_NUMBER A_TELLING tT tG tH tD tC tL tV tM))
    : FnOk P w K mg base CX0 1 f fd ["deed", "ones", "readings"] (Sd.spCnt) := by
  refine F.ok sc_counter_outcome (fun vs H Q E h => ?_) (fun cdv A outer s H vs Q E hr h => ?_)
  · obtain ⟨dp, rs, d, ones, rps, rds, rfl, _⟩ := h
    rfl
  · obtain ⟨dp, rs, d, ones, rps, rds, rfl, hd, ht, hR, q⟩ := h
    refine ⟨_, (pss_cons (ps_if (pt_cmpR op_eq (pe_ix ix_tup (pv 0) pe_int (fun _ _ => rfl)) pe_str (nomark _))
      (pss_one (ps_ret (pe_tup (pa_cons (pe_op op_add (pv 1) pe_int) (pa_cons pe_non (pa_cons pe_non pa_nil))))))
      pss_nil)
      (pss_cons (ps_if (pt_not (pt_truth (pv 2) (by intro _; rfl)))
      (pss_one (ps_ret pe_non))
      pss_nil)
      (pss_cons (ps_set (i := 3) sc_counter_outcome.nd rfl (Or.inl rfl) (pe_callB (cr_sum rfl) (by rfl) T.sum (by decide +kernel) (pa_cons (pe_ix ix_list (pv 2) (pe_un un_neg pe_int) (fun _ _ => rfl)) pa_nil)))
      (pss_one (ps_ret (pe_tup (pa_cons pe_non (pa_cons (pv 3) (pa_cons (pv 3) pa_nil))))))))), ?_⟩
    have hd' : H dp = some (.tup d.vals) := hd
    refine ⟨_, rfl, dp, _, _, _, rfl, rfl, SqT.of hd, d.at0, rfl, _, rfl, ?_⟩
    cases d
    case one =>
      refine ⟨_, rfl, _, _, rfl, rfl, (by show 3 ≤ sizeLine; decide), fun t htt => ?_⟩
      exact q _ _ (Sd.Same.new htt) ⟨t, .non, .non, rfl, upd_same, rfl, rfl⟩
    case count =>
      refine ⟨_, rfl, _, .inl ⟨_, SqL.of hR.1, rfl⟩, ?_⟩
      cases rds with
      | nil =>
        cases hR.2
        exact q _ _ (Same.refl _) rfl
      | cons r rr =>
        cases rps with
        | nil => cases hR.2
        | cons p pp =>
          obtain ⟨x, hx, hl⟩ := hR.neg (k := 1) (by decide) (by rw [List.length_cons]; omega) (Sd.last_at (by simp))
          refine ⟨_, rfl, _, rfl, rs, _, _, _, rfl, rfl, SqL.of hR.1, hx, x, _, rfl, SqL.of hl, ?_⟩
          refine ⟨_, rfl, _, rfl, (by show 3 ≤ sizeLine; decide), fun t htt => ?_⟩
          exact q _ _ (Sd.Same.new htt) ⟨t, _, _, rfl, upd_same, rfl, rfl⟩
    all_goals exact absurd ht (by intro z; cases z)
abbrev N__row : List Str := ["number"]
theorem sc__row : FnScope N__row ["number"] (defScope s__row) := ⟨rfl, rfl, rfl, by decide +kernel, rfl, by decide +kernel, by decide +kernel⟩
theorem ok__row {f : Addr} {fd : FuncData} (F : Fun K "_row" "_row" s__row f fd) (T : (Txt K mg w A_Boxes A_Hand A_Hall A_HandsError A_NoNumber A_NoBox A_NoHand A_NoDeed A_THING_OF A_WITH_A_NUMBER A_TELLING tT tG tH tD tC tL tV tM))
    (C_parted : Sd.Cal P w K mg base CX0 1 "parted" ["number"] (Sd.spParted))
    : FnOk P w K mg base CX0 2 f fd ["number"] (Sd.spRow) := by
  refine F.ok sc__row (fun vs H Q E h => ?_) (fun cdv A outer s H vs Q E hr h => ?_)
  · obtain ⟨n, many, rfl, _⟩ := h
    rfl
  · obtain ⟨n, many, rfl, hok, hm, q⟩ := h
    refine ⟨_, (pss_one (ps_ret (pe_orT (Sd.pe_fn C_parted (hr.mono (by decide)) pass0 (pa_cons (pv 0) pa_nil)) (pe_one (pe_lst (pa_cons pe_int (pa_cons pe_int pa_nil))))))), ?_⟩
    obtain ⟨row, hr, h5, hl⟩ := hok
    have hlen : row.length ≤ 1000 := by
      rcases hl with e | ⟨e, _⟩
      · rw [e]; decide
      · omega
    refine ⟨_, rfl, n, row, rfl, hr.1, hlen, hr.2, fun p hp H' s' hp' => ?_⟩
    refine ⟨_, .inl ⟨_, SqL.of hp', rfl⟩, ?_⟩
    have e0 : Sd.row0 n = if row = [] then [0, 0] else row := by
      unfold Sd.row0
      rw [hr.dec]
    cases row with
    | nil =>
      refine ⟨(by show 2 ≤ sizeLine; decide), fun z hz => q z (s'.free hz) _ (s'.trans (Sd.Same.new hz)) ?_⟩
      rw [upd_same, e0]
      rfl
    | cons x r =>
      refine q p hp _ s' ?_
      rw [hp', e0, if_neg (by simp)]
abbrev N__cell_behind : List Str := ["deed", "cell"]
theorem sc__cell_behind : FnScope N__cell_behind ["deed", "cell"] (defScope s__cell_behind) := ⟨rfl, rfl, rfl, by decide +kernel, rfl, by decide +kernel, by decide +kernel⟩
theorem ok__cell_behind {f : Addr} {fd : FuncData} (F : Fun K "_cell_behind" "_cell_behind" s__cell_behind f fd) (T : (Txt K mg w A_Boxes A_Hand A_Hall A_HandsError A_NoNumber A_NoBox A_NoHand A_NoDeed A_THING_OF A_WITH_A_NUMBER A_TELLING tT tG tH tD tC tL tV tM))
    : FnOk P w K mg base CX0 1 f fd ["deed", "cell"] (Sd.spCellB) := by
  refine F.ok sc__cell_behind (fun vs H Q E h => ?_) (fun cdv A outer s H vs Q E hr h => ?_)
  · obtain ⟨dp, d, c, rfl, _⟩ := h
    rfl
  · obtain ⟨dp, d, c, rfl, hd, ⟨n, hn⟩, q⟩ := h
    refine ⟨_, (pss_cons (ps_if (pt_cmpR op_eq (pe_ix ix_tup (pv 0) pe_int (fun _ _ => rfl)) pe_str (nomark _))
      (pss_one (ps_ret (pe_op op_add (pv 1) (pe_ix ix_tup (pv 0) pe_int (fun _ _ => rfl)))))
      pss_nil)
      (pss_cons (ps_if (pt_cmpR op_eq (pe_ix ix_tup (pv 0) pe_int (fun _ _ => rfl)) pe_str (nomark _))
      (pss_one (ps_ret (pe_callB (call_max2 rfl) (by rfl) T.max (by decide +kernel) (pa_cons (pv 1) (pa_cons (pe_ix ix_tup (pv 0) pe_int (fun _ _ => rfl)) pa_nil)))))
      pss_nil)
      (pss_one (ps_ret (pe_ix ix_tup (pv 0) pe_int (fun _ _ => rfl)))))), ?_⟩
    have hd' : H dp = some (.tup d.vals) := hd
    refine ⟨_, rfl, dp, _, _, _, rfl, rfl, SqT.of hd, d.at0, rfl, _, rfl, ?_⟩
    rcases hn with rfl | rfl | rfl
    · exact ⟨_, rfl, dp, _, _, _, rfl, rfl, SqT.of hd', atI_nat (j := 0) rfl, rfl, _, rfl, _, rfl, dp, _, _, _, rfl, rfl, SqT.of hd', atI_nat (j := 1) rfl, q⟩
    · exact ⟨_, rfl, _, rfl, dp, _, _, _, rfl, rfl, SqT.of hd', atI_nat (j := 1) rfl, _, _, rfl, rfl, q⟩
    · exact ⟨_, rfl, dp, _, _, _, rfl, rfl, SqT.of hd', atI_nat (j := 0) rfl, rfl, _, rfl, _, rfl, _, rfl, dp, _, _, _, rfl, rfl, SqT.of hd', atI_nat (j := 1) rfl, _, _, rfl, q⟩
abbrev N__left : List Str := ["rows", "took", "left", "hand", "place"]
theorem sc__left : FnScope N__left ["rows", "took"] (defScope s__left) := ⟨rfl, rfl, rfl, by decide +kernel, rfl, by decide +kernel, by decide +kernel⟩
theorem ok__left {f : Addr} {fd : FuncData} (F : Fun K "_left" "_left" s__left f fd) (T : (Txt K mg w A_Boxes A_Hand A_Hall A_HandsError A_NoNumber A_NoBox A_NoHand A_NoDeed A_THING_OF A_WITH_A_NUMBER A_TELLING tT tG tH tD tC tL tV tM))
    : FnOk P w K mg base CX0 1 f fd ["rows", "took"] (Sd.spLeft) := by
  refine F.ok sc__left (fun vs H Q E h => ?_) (fun cdv A outer s H vs Q E hr h => ?_)
  · obtain ⟨rp, tk, rps, rows, took, rfl, _⟩ := h
    rfl
  · obtain ⟨rp, tk, rps, rows, took, rfl, hR, hT, htl, hrl, hok, q⟩ := h
    refine ⟨_, (pss_cons (ps_set (i := 2) sc__left.nd rfl (Or.inl rfl) (pe_lst pa_nil))
      (pss_cons (ps_for PassesOwn.never rfl (pi_range1 rfl T.range (pa_cons (pe_callB call_len_seq (by rfl) T.len (by decide +kernel) (pa_cons (pv 0) pa_nil)) pa_nil)) (pg_name (i := 3) sc__left.nd rfl (Or.inl rfl))
      (pss_cons (ps_set (i := 4) sc__left.nd rfl (Or.inl rfl) (pe_op op_mul pe_int (pe_ix ix_list (pv 1) (pv 3) (fun _ _ => rfl))))
      (pss_one (ps_if (pt_cmpR op_lt (pv 4) (pe_callB call_len_seq (by rfl) T.len (by decide +kernel) (pa_cons (pe_ix ix_list (pv 0) (pv 3) (fun _ _ => rfl)) pa_nil)) (nomark _))
      (pss_one (ps_expr (pe_bm PySem.F.plainAttrs_list PySem.F.slot_list_append PySem.F.type_list_append mt_append (pv 2) (pa_cons (pe_tup (pa_cons (pe_ix ix_list (pe_ix ix_list (pv 0) (pv 3) (fun _ _ => rfl)) (pe_op op_add (pv 4) pe_int) (fun _ _ => rfl)) (pa_cons (pv 3) (pa_cons (pe_ix ix_list (pe_ix ix_list (pv 0) (pv 3) (fun _ _ => rfl)) (pv 4) (fun _ _ => rfl)) pa_nil)))) pa_nil))))
      pss_nil))))
      (pss_one (ps_ret (pv 2))))), ?_⟩
    refine ⟨(by show 0 ≤ sizeLine; decide), fun p hp => ?_⟩
    have hlen : (rps.map V.ref).length = rows.length := by rw [List.length_map]; exact Sd.Paired.len hR.2
    refine ⟨_, rfl, rp, _, rfl, .inl (SqL.of (Sd.Same.new hp _ _ hR.1)), _, rfl, by omega, by omega, ?_⟩
    have hT0 : H tk = some (.lst (took.map fun n : Nat => V.int (n : Int))) := hT
    refine for_range (lo := 0) (n := ((rps.map V.ref).length : Int).toNat) (fun i σ H' => Same H H' ∧ ∃ (bs : List (Addr × List Int)) (x y : Option V), σ = [some (.ref rp), some (.ref tk), some (.ref p), x, y] ∧ H' p = some (.lst (bs.map fun b => V.ref b.1)) ∧
        (∀ b ∈ bs, H' b.1 = some (.tup (b.2.map V.int))) ∧ bs.map (·.2) = ((List.range i).filterMap fun h => if 2 * took.getD h 0 < (rows.getD h []).length then some ((rows.getD h []).getD (2 * took.getD h 0 + 1) 0, h, (rows.getD h []).getD (2 * took.getD h 0) 0) else none).map Sd.trip ∧ bs.length ≤ i)
      ⟨Sd.Same.new hp, [], none, none, rfl, upd_same, by simp, rfl, Nat.le_refl _⟩ ?_ ?_
    · rintro i σ H' hi ⟨s', bs, x, y, rfl, hpl, hbt, hbs, hbl⟩
      have hi2 : i < rows.length := by omega
      have hR' := hR.same s'
      have e0 : (0 : Int) + (i : Nat) = ((i : Nat) : Int) := Int.zero_add _
      obtain ⟨rq, hrq, hrow⟩ := hR'.at_ (List.getElem?_eq_getElem hi2)
      have htk : took[i]? = some took[i] := List.getElem?_eq_getElem (by omega)
      have hD1 : took.getD i 0 = took[i] := by rw [List.getD_eq_getElem?_getD, htk]; rfl
      have hD2 : rows.getD i [] = rows[i] := by rw [List.getD_eq_getElem?_getD, List.getElem?_eq_getElem hi2]; rfl
      refine ⟨_, rfl, _, rfl, tk, _, _, _, rfl, rfl, SqL.of (s' _ _ hT0), at_of e0 (by rw [List.getElem?_map, htk]; rfl), _, _, rfl, rfl, .inl ⟨by decide, by decide⟩, ?_⟩
      have hst : List.range (i + 1) = List.range i ++ [i] := List.range_succ
      have hrq' : atI (rps.map V.ref) ((0 : Int) + (i : Nat)) = some (.ref rq) := by rw [e0]; exact hrq
      refine ⟨_, rfl, _, rfl, _, rfl, rp, _, _, _, rfl, rfl, SqL.of hR'.1, hrq', rq, _, rfl, .inl (SqL.of hrow), _, _, rfl, rfl, _, rfl, ?_⟩
      refine ite2 (fun c => ?_) (fun c => ?_)
      · have hc : (2 : Int) * (took[i] : Nat) < ((rows[i].map V.int).length : Nat) := of_decide_eq_true c
        rw [List.length_map] at hc
        have hev := (hok _ (List.getElem_mem hi2)).2.2
        have hc2 : 2 * took[i] + 1 < rows[i].length := by omega
        have a1 : rows[i][2 * took[i] + 1]? = some rows[i][2 * took[i] + 1] := List.getElem?_eq_getElem hc2
        have a0 : rows[i][2 * took[i]]? = some rows[i][2 * took[i]] := List.getElem?_eq_getElem (by omega)
        refine ⟨_, rfl, .inl ⟨rfl, _, SqL.of hpl⟩, ?_⟩
        refine ⟨_, rfl, _, rfl, rp, _, _, _, rfl, rfl, SqL.of hR'.1, hrq', _, rfl, _, _, rfl, rfl, rq, _, _, _, rfl, rfl, SqL.of hrow, at_of (by omega : (2 : Int) * (took[i] : Nat) + 1 = ((2 * took[i] + 1 : Nat) : Int)) (Sd.ints_get a1), ?_⟩
        refine ⟨_, rfl, _, rfl, _, rfl, rp, _, _, _, rfl, rfl, SqL.of hR'.1, hrq', _, rfl, rq, _, _, _, rfl, rfl, SqL.of hrow, at_of (by omega : (2 : Int) * (took[i] : Nat) = ((2 * took[i] : Nat) : Int)) (Sd.ints_get a0), ?_⟩
        refine ⟨(by show 3 ≤ sizeLine; decide), fun t ht => ?_⟩
        have s2 := Sd.Same.new (o := .tup [.int rows[i][2 * took[i] + 1], .int ((0 : Int) + (i : Nat)), .int rows[i][2 * took[i]]]) ht
        have c2 : upd H' t (.tup [.int rows[i][2 * took[i] + 1], .int ((0 : Int) + (i : Nat)), .int rows[i][2 * took[i]]]) t = some (.tup ([rows[i][2 * took[i] + 1], ((i : Nat) : Int), rows[i][2 * took[i]]].map V.int)) := by
          rw [upd_same, e0]
          rfl
        generalize upd H' t (.tup [.int rows[i][2 * took[i] + 1], .int ((0 : Int) + (i : Nat)), .int rows[i][2 * took[i]]]) = H2 at s2 c2 ⊢
        have hpl2 := s2 _ _ hpl
        refine ⟨p, _, _, rfl, rfl, hpl2, ?_, ?_⟩
        · rw [List.length_map]
          exact small1000 (by omega)
        have ntup : ∀ {x : Addr} {xs : List V}, H2 x = some (.tup xs) → x ≠ p := fun e z => by
          rw [z, hpl2] at e
          cases e
        refine ⟨fun z o e => ?_, bs ++ [(t, [rows[i][2 * took[i] + 1], ((i : Nat) : Int), rows[i][2 * took[i]]])], _, _, rfl, ?_, ?_, ?_, ?_⟩
        · rw [upd_ne (ne_of_none e hp)]
          exact (s'.trans s2) _ _ e
        · rw [upd_same, List.map_append]
          rfl
        · intro b hb
          rcases List.mem_append.mp hb with hb | hb
          · have := s2 _ _ (hbt b hb)
            rw [upd_ne (ntup this)]
            exact this
          · rw [List.mem_singleton.mp hb]
            rw [upd_ne (ntup c2)]
            exact c2
        · rw [hst, List.filterMap_append, List.map_append, List.map_append, hbs]
          congr 1
          rw [List.filterMap_cons, List.filterMap_nil, hD1, hD2, if_pos (by omega)]
          show [_] = [Sd.trip _]
          unfold Sd.trip
          rw [List.getD_eq_getElem?_getD, List.getD_eq_getElem?_getD, a1, a0]
          rfl
        · rw [List.length_append]
          exact Nat.succ_le_succ hbl
      · have hc : ¬ ((2 : Int) * (took[i] : Nat) < ((rows[i].map V.int).length : Nat)) := fun z => c (decide_eq_true z)
        rw [List.length_map] at hc
        refine ⟨s', bs, _, _, rfl, hpl, hbt, ?_, by omega⟩
        rw [hst, List.filterMap_append, List.map_append, hbs, List.filterMap_cons, List.filterMap_nil, hD1, hD2, if_neg (by omega)]
        exact (List.append_nil _).symm
    · rintro σ H' ⟨s', bs, x, y, rfl, hpl, hbt, hbs, hbl⟩
      refine ⟨_, rfl, q p H' bs hp s' hpl hbt ?_⟩
      have : ((rps.map V.ref).length : Int).toNat = rows.length := by omega
      rw [this] at hbs
      exact hbs
end

section
variable {P : Program} {w : World} {K : PySem.W.Frag} {mg : Str → Option Value} {base : Heap} {A_Boxes A_Hand A_Hall A_HandsError A_NoNumber A_NoBox A_NoHand A_NoDeed A_THING_OF A_WITH_A_NUMBER A_TELLING : Addr} {tT tG tH tD tC tL tV tM : Tok}
abbrev N__given : List Str := ["rows", "hand", "gift", "own", "stamp", "row"]
theorem sc__given : FnScope N__given ["rows", "hand", "gift"] (defScope s__given) := ⟨rfl, rfl, rfl, by decide +kernel, rfl, by decide +kernel, by decide +kernel⟩
theorem ok__given {f : Addr} {fd : FuncData} (F : Fun K "_given" "_given" s__given f fd) (T : (Txt K mg w A_Boxes A_Hand A_Hall A_HandsError A_NoNumber A_NoBox A_NoHand A_NoDeed A_THING_OF A_WITH_A_NUMBER A_TELLING tT tG tH tD tC tL tV tM))
    (C_packed : Sd.Cal P w K mg base CX0 1 "packed" ["row"] (Sd.spPacked K))
    : FnOk P w K mg base CX0 2 f fd ["rows", "hand", "gift"] (Sd.spGiven) := by
  refine F.ok sc__given (fun vs H Q E h => ?_) (fun cdv A outer s H vs Q E hr h => ?_)
  · obtain ⟨rp, rps, rows, i, n, rfl, _⟩ := h
    rfl
  · obtain ⟨rp, rps, rows, i, n, rfl, hR, hi, hrl, hok, hn0, hn1, q⟩ := h
    refine ⟨_, (pss_cons (ps_set (i := 3) sc__given.nd rfl (Or.inl rfl) (pe_ix ix_list (pv 0) (pv 1) (fun _ _ => rfl)))
      (pss_cons (ps_set (i := 4) sc__given.nd rfl (Or.inl rfl) (pe_op op_add pe_int (pe_callBK (Sd.cr_max0 rfl hr.units) (by rfl) T.max (by decide +kernel) (pa_cons (pe_lc (own := [("row", 5)]) (g := gName 5) (by rfl) sc__given.nd (pi_list (pv 0)) (blkOk_by (own := [("row", 5)]) (N := N__given) (sc := defScope s__given) (by decide +kernel)) (fun _ _ _ _ _ => pg_name (i := 5) sc__given.nd rfl (Or.inl rfl)) (fun _ _ _ _ _ => (pts_one (Sd.pt_truthK (K := K) rfl (pv 5) (by intro _; rfl)))) (fun _ _ _ _ _ => (pe_ix (Sd.ixK (K := K) (r := rIxL) ix_list rfl) (pv 5) (pe_un un_neg pe_int) (fun _ _ => rfl)))) pa_nil) (pk_cons pe_int pk_nil))))
      (pss_one (ps_ret (pe_tup (pa_cons (Sd.pe_fn C_packed (hr.mono (by decide)) pass0 (pa_cons (pe_op op_cat (pv 3) (pe_lst (pa_cons (pv 2) (pa_cons (pv 4) pa_nil)))) pa_nil)) (pa_cons pe_non (pa_cons (pe_tup (pa_cons (pv 1) (pa_cons (pe_op op_fdiv (pe_callB call_len_seq (by rfl) T.len (by decide +kernel) (pa_cons (pv 3) pa_nil)) pe_int) pa_nil))) pa_nil)))))))), ?_⟩
    obtain ⟨rq, hrq, hrow⟩ := hR.at_ (List.getElem?_eq_getElem hi)
    have hD2 : rows.getD i [] = rows[i] := by rw [List.getD_eq_getElem?_getD, List.getElem?_eq_getElem hi]; rfl
    refine ⟨_, rfl, _, rfl, rp, _, _, _, rfl, rfl, SqL.of hR.1, hrq, ?_⟩
    refine ⟨_, rfl, rp, rfl, ⟨_, SqL.of hR.1⟩, fun D hD => ?_⟩
    refine lc_list (K := K) (xs := rps.map V.ref) (fun k H' => Same H H' ∧ H' D = some (.lst ((((rows.take k).filter fun r => r ≠ []).map fun r => r.getLastD 0).map V.int))) ⟨Sd.Same.new hD, upd_same⟩ (fun k H' _ h => SqL.of (h.1 _ _ hR.1)) ?_ ?_
    · rintro k x H' hx ⟨s', hDl⟩
      rw [List.getElem?_map] at hx
      cases hq : rps[k]? with
      | none => rw [hq] at hx; cases hx
      | some p =>
        rw [hq] at hx
        cases hx
        obtain ⟨row, hr, hp⟩ := Sd.Paired.get2 hR.2 hq
        have htk : rows.take (k + 1) = rows.take k ++ [row] := by
          obtain ⟨h1, h2⟩ := List.getElem?_eq_some_iff.mp hr
          rw [List.take_succ_eq_append_getElem h1, h2]
        have hkl := (List.getElem?_eq_some_iff.mp hr).1
        refine ⟨rfl, _, rfl, _, .inl ⟨_, SqL.of (s' _ _ hp), rfl⟩, ?_⟩
        cases row with
        | nil =>
          refine ⟨s', ?_⟩
          rw [hDl, htk, List.filter_append]
          simp
        | cons y r =>
          have e1 : (y :: r)[(y :: r).length - 1]? = some ((y :: r).getLastD 0) := by
            rw [List.getLastD_eq_getLast?, List.getLast?_eq_getElem?, List.getElem?_eq_getElem (by rw [List.length_cons]; omega)]
            rfl
          have e2 : atI ((y :: r).map V.int) (-(1 : Nat) : Int) = some (.int ((y :: r).getLastD 0)) := Sd.atI_neg (k := 1) (by decide) (by rw [List.length_map, List.length_cons]; omega) (by rw [List.length_map]; exact Sd.ints_get e1)
          refine ⟨_, rfl, _, rfl, p, _, _, _, rfl, rfl, SqL.of (s' _ _ hp), e2, ?_⟩
          refine ⟨_, hDl, ?_, fun z o e => ?_, ?_⟩
          · rw [List.length_map, List.length_map]
            have := List.length_filter_le (fun r : List Int => decide (r ≠ [])) (rows.take k)
            rw [List.length_take] at this
            exact small1000 (by omega)
          · rw [upd_ne (ne_of_none e hD)]
            exact s' _ _ e
          · rw [upd_same, htk, List.filter_append, List.map_append, List.map_append]
            simp
    rintro H1 ⟨s1, hDl⟩
    rw [List.length_map, Sd.Paired.len hR.2, List.take_length] at hDl
    have hpos : ∀ x ∈ ((rows.filter fun r => r ≠ []).map fun r => r.getLastD 0), 0 ≤ x ∧ x < 900000 := by
      intro x hx
      obtain ⟨r, hr, rfl⟩ := List.mem_map.mp hx
      obtain ⟨hr1, hr2⟩ := List.mem_filter.mp hr
      have hne : r ≠ [] := of_decide_eq_true hr2
      have h5 := (hok r hr1).1
      refine h5 _ ?_
      cases r with
      | nil => exact absurd rfl hne
      | cons y r =>
        rw [List.getLastD_cons]
        cases r with
        | nil => exact List.mem_cons_self
        | cons z r =>
          refine List.mem_cons_of_mem _ ?_
          rw [List.getLastD_eq_getLast?, List.getLast?_eq_some_getLast (by simp)]
          exact List.getLast_mem _
    refine ⟨D, _, rfl, rfl, SqL.of hDl, fun x hx => (hpos x hx).1, ?_⟩
    refine ⟨_, _, rfl, rfl, ?_⟩
    have est : (1 : Int) + Sd.top0 ((rows.filter fun r => r ≠ []).map fun r => r.getLastD 0) = Sd.stamp rows := rfl
    dsimp only
    rw [est]
    have hst : 1 ≤ Sd.stamp rows ∧ Sd.stamp rows < 1000000 := by
      rw [← est]
      have h0 := Sd.top0_nn ((rows.filter fun r => r ≠ []).map fun r => r.getLastD 0)
      have h1 := Sd.top0_le (l := ((rows.filter fun r => r ≠ []).map fun r => r.getLastD 0)) (m := 900000) (by decide) fun x hx => Int.le_of_lt (hpos x hx).2
      omega
    generalize Sd.stamp rows = st at hst q ⊢
    have hrow1 := s1 _ _ hrow
    refine ⟨_, rfl, _, rfl, _, rfl, (by show 2 ≤ sizeLine; decide), fun l hl => ?_⟩
    have s2 := Sd.Same.new (o := .lst [.int n, .int st]) hl
    have c2 : upd H1 l (.lst [.int n, .int st]) l = some (.lst [.int n, .int st]) := upd_same
    generalize upd H1 l (.lst [.int n, .int st]) = H2 at s2 c2 ⊢
    have hlen := (hok _ (List.getElem_mem hi)).2.1
    refine ⟨rq, l, _, _, rfl, rfl, s2 _ _ hrow1, c2, ?_, fun p hp => ?_⟩
    · rw [List.length_map]
      exact Nat.le_trans (by show _ + 2 ≤ 902; omega) (by decide : 902 ≤ sizeLine)
    have s3 := Sd.Same.new (o := .lst (rows[i].map V.int ++ [.int n, .int st])) hp
    have c3 : upd H2 p (.lst (rows[i].map V.int ++ [.int n, .int st])) p = some (.lst ((rows[i] ++ [n, st]).map V.int)) := by
      rw [upd_same, List.map_append]
      rfl
    generalize upd H2 p (.lst (rows[i].map V.int ++ [.int n, .int st])) = H3 at s3 c3 ⊢
    refine ⟨p, _, rfl, SqL.of c3, ?_, ?_⟩
    · refine ((hok _ (List.getElem_mem hi)).1.six).append fun x hx => ?_
      simp only [List.mem_cons, List.not_mem_nil, or_false] at hx
      rcases hx with rfl | rfl
      · omega
      · omega
    refine ⟨_, rfl, _, rfl, rq, _, rfl, .inl (SqL.of (s3 _ _ (s2 _ _ hrow1))), _, _, rfl, rfl, ⟨by decide, by decide⟩, (by show 2 ≤ sizeLine; decide), fun t ht => ?_⟩
    have s4 := Sd.Same.new (o := .tup [.int i, .int (((rows[i].map V.int).length : Nat) / 2)]) ht
    refine ⟨(by show 3 ≤ sizeLine; decide), fun t2 ht2 => ?_⟩
    refine q _ _ ((((s1.trans s2).trans s3).trans s4).trans (Sd.Same.new ht2)) ⟨t2, .non, .ref t, rfl, ?_, rfl, t, rfl, ?_⟩
    · rw [upd_same, hD2]
      rfl
    · rw [upd_ne (ne_of_none upd_same ht2), upd_same, hD2, List.length_map]
      rfl
abbrev N_line_outcome : List Str := ["deed", "hand", "took", "readings", "rows", "least", "giver", "number"]
theorem sc_line_outcome : FnScope N_line_outcome ["deed", "hand", "took", "readings"] (defScope s_line_outcome) := ⟨rfl, rfl, rfl, by decide +kernel, rfl, by decide +kernel, by decide +kernel⟩
theorem ok_line_outcome {f : Addr} {fd : FuncData} (F : Fun K "line_outcome" "line_outcome" s_line_outcome f fd) (T : (Txt K mg w A_Boxes A_Hand A_Hall A_HandsError A_NoNumber A_NoBox A_NoHand A_NoDeed A_THING_OF A_WITH_A_NUMBER A_TELLING tT tG tH tD tC tL tV tM))
    (C_parted : Sd.Cal P w K mg base CX0 1 "parted" ["number"] (Sd.spParted))
    (C__given : Sd.Cal P w K mg base CX0 2 "_given" ["rows", "hand", "gift"] (Sd.spGiven))
    (C__left : Sd.Cal P w K mg base CX0 1 "_left" ["rows", "took"] (Sd.spLeft))
    : FnOk P w K mg base CX0 3 f fd ["deed", "hand", "took", "readings"] (Sd.spLine) := by
  refine F.ok sc_line_outcome (fun vs H Q E h => ?_) (fun cdv A outer s H vs Q E hr h => ?_)
  · obtain ⟨dp, rs, tk, rps, rds, took, many, i, d, rfl, _⟩ := h
    rfl
  · obtain ⟨dp, rs, tk, rps, rds, took, many, i, d, rfl, hd, ht, hdo, hi, hR, hrd, hm, hrl, hT, htl, q⟩ := h
    refine ⟨_, (pss_cons (ps_if (pt_not (pt_truth (pv 3) (by intro _; rfl)))
      (pss_one (ps_ret pe_non))
      pss_nil)
      (pss_cons (ps_setLc (i := 4) (own := [("number", 7)]) (g := gName 7) (by rfl) sc_line_outcome.nd rfl rfl (sw_true rfl rfl rfl (by decide +kernel)) (pi_list (pe_ix ix_list (pv 3) (pe_un un_neg pe_int) (fun _ _ => rfl))) (blkOk_by (own := [("number", 7)]) (N := N_line_outcome) (sc := defScope s_line_outcome) (by decide +kernel)) (fun _ _ _ _ _ => pg_name (i := 7) sc_line_outcome.nd rfl (Or.inl rfl)) (fun _ _ _ _ _ => pts_nil) (fun _ _ _ _ _ => (Sd.pe_fn C_parted (hr.mono (by decide)) pass0 (pa_cons (pv 7) pa_nil))))
      (pss_cons (ps_if (pt_cmpR op_eq (pe_ix ix_tup (pv 0) pe_int (fun _ _ => rfl)) pe_str (nomark _))
      (pss_one (ps_ret (Sd.pe_fn C__given (hr.mono (by decide)) pass0 (pa_cons (pv 4) (pa_cons (pv 1) (pa_cons (pe_ix ix_tup (pv 0) pe_int (fun _ _ => rfl)) pa_nil))))))
      pss_nil)
      (pss_cons (ps_if (pt_not (pt_truth (Sd.pe_fn C__left (hr.mono (by decide)) pass0 (pa_cons (pv 4) (pa_cons (pv 2) pa_nil))) (by intro _; rfl)))
      (pss_one (ps_ret (pe_tup (pa_cons pe_non (pa_cons pe_non (pa_cons pe_non pa_nil))))))
      pss_nil)
      (pss_cons (ps_if (pt_cmpR op_lt (pe_callB call_len_seq (by rfl) T.len (by decide +kernel) (pa_cons (pv 3) pa_nil)) pe_int (nomark _))
      (pss_one (ps_ret pe_non))
      pss_nil)
      (pss_cons (ps_set (i := 5) sc_line_outcome.nd rfl (Or.inl rfl) (pe_callB (Sd.cr_minT rfl hr.units) (by rfl) T.min (by decide +kernel) (pa_cons (Sd.pe_fn C__left (hr.mono (by decide)) pass0 (pa_cons (pv 4) (pa_cons (pv 2) pa_nil))) pa_nil)))
      (pss_cons (ps_set (i := 6) sc_line_outcome.nd rfl (Or.inl rfl) (pe_ix ix_tup (pv 5) pe_int (fun _ _ => rfl)))
      (pss_one (ps_ret (pe_tup (pa_cons pe_non (pa_cons (pe_ix ix_tup (pv 5) pe_int (fun _ _ => rfl)) (pa_cons (pe_tup (pa_cons (pv 6) (pa_cons (pe_ix ix_list (pv 2) (pv 6) (fun _ _ => rfl)) pa_nil))) pa_nil))))))))))))), ?_⟩
    refine ⟨_, rfl, _, .inl ⟨_, SqL.of hR.1, rfl⟩, ?_⟩
    by_cases hne : rds = []
    · subst hne
      cases rps with
      | nil => exact q _ _ (Same.refl _) (by unfold Sd.lineOut; rw [if_pos rfl]; rfl)
      | cons p pp => cases hR.2
    have hne2 : rps ≠ [] := fun e => by
      rw [e] at hR
      have := Sd.Paired.len hR.2
      exact hne (List.eq_nil_of_length_eq_zero this.symm)
    have hem : (rps.map V.ref).isEmpty = false := by
      cases rps with
      | nil => exact absurd rfl hne2
      | cons p pp => rfl
    rw [hem]
    obtain ⟨x, hx, hl⟩ := hR.neg (k := 1) (by decide) (by have := List.length_pos_iff.mpr hne; omega) (Sd.last_at hne)
    have hlast : Sd.RdOk many 4 (Sd.last rds) := hrd _ (List.mem_of_getElem? (Sd.last_at hne))
    refine ⟨_, rfl, _, rfl, rs, _, _, _, rfl, rfl, SqL.of hR.1, hx, x, rfl, ⟨_, SqL.of hl⟩, fun D hD => ?_⟩
    refine lc_list (K := K) (xs := (Sd.last rds).map V.int) (fun k H' => Same H H' ∧ ∃ qs : List Addr, H' D = some (.lst (qs.map V.ref)) ∧ Paired (fun p r => H' p = some (.lst (r.map V.int))) qs (((Sd.last rds).take k).map Sd.dec) ∧ qs.length ≤ k ∧ ∀ y ∈ qs, y ≠ D) ⟨Sd.Same.new hD, [], upd_same, .nil, Nat.le_refl _, by simp⟩ (fun k H' _ h => SqL.of (h.1 _ _ hl)) ?_ ?_
    · rintro k y H' hy ⟨s', qs, hDl, hP, hql, hqD⟩
      obtain ⟨v, hv, rfl⟩ := Sd.ints_got hy
      have hkl := (List.getElem?_eq_some_iff.mp hv).1
      rw [hlast.1] at hkl
      have hb : Sd.LineOk v := hlast.2 v (List.mem_of_getElem? hv)
      obtain ⟨row, hr, h5, hln, hev⟩ := hb
      refine ⟨rfl, _, rfl, v, row, rfl, hr.1, by omega, hr.2, fun p hp H2 s2 hp2 => ?_⟩
      have npD : p ≠ D := fun z => by rw [z, hDl] at hp; cases hp
      refine ⟨_, s2 _ _ hDl, by rw [List.length_map]; exact small1000 (by omega), fun z o e => ?_, qs ++ [p], ?_, ?_, ?_, ?_⟩
      · rw [upd_ne (ne_of_none e hD)]
        exact (s'.trans s2) _ _ e
      · rw [upd_same, List.map_append]
        rfl
      · have htk : (Sd.last rds).take (k + 1) = (Sd.last rds).take k ++ [v] := by
          obtain ⟨h1, h2⟩ := List.getElem?_eq_some_iff.mp hv
          rw [List.take_succ_eq_append_getElem h1, h2]
        rw [htk, List.map_append]
        refine Sd.Paired.app (Sd.Paired.mapM hP fun z hz r e => ?_) ?_
        · rw [upd_ne (hqD z hz)]
          exact s2 _ _ e
        · rw [upd_ne npD, hp2, hr.dec]
      · rw [List.length_append]
        exact Nat.succ_le_succ hql
      · intro z hz
        rcases List.mem_append.mp hz with hz | hz
        · exact hqD z hz
        · rw [List.mem_singleton.mp hz]
          exact npD
    rintro H1 ⟨s1, qs, hDl, hP, hql, hqD⟩
    rw [List.length_map, List.take_length] at hP
    have hrows : Sd.LstsAt H1 D qs ((Sd.last rds).map Sd.dec) := ⟨hDl, hP⟩
    have hrl2 : ((Sd.last rds).map Sd.dec).length = many := by rw [List.length_map, hlast.1]
    have hrok : ∀ r ∈ (Sd.last rds).map Sd.dec, Sd.RowOk r := by
      intro r hr
      obtain ⟨v, hv, rfl⟩ := List.mem_map.mp hr
      obtain ⟨row, hr, h5, hln, hev⟩ := (show Sd.LineOk v from hlast.2 v hv)
      rw [hr.dec]
      exact ⟨h5, hln, hev⟩
    have hd1 : H1 dp = some (.tup d.vals) := s1 _ _ hd
    have hlo : ∀ o, Sd.lineOut i d took rds = o → ∀ u H', Same H H' → Sd.OutAt H' u o → Q u H' := fun o e u H' s h => q u H' s (by rw [e]; exact h)
    refine ⟨_, rfl, dp, _, _, _, rfl, rfl, SqT.of hd1, d.at0, rfl, _, rfl, ?_⟩
    cases d
    case give n =>
      refine ⟨_, rfl, _, rfl, _, rfl, dp, _, _, _, rfl, rfl, SqT.of hd1, atI_nat (j := 1) rfl, ?_⟩
      refine ⟨D, qs, _, i, n, rfl, hrows, by omega, by omega, hrok, hdo.1, hdo.2, fun u H' s' hu => ?_⟩
      refine hlo _ ?_ u H' (s1.trans s') hu
      unfold Sd.lineOut
      rw [if_neg hne]
    case take =>
      have hT1 : Sd.TooksAt H1 tk took := s1 _ _ hT
      refine ⟨_, rfl, _, rfl, D, tk, qs, _, took, rfl, hrows, hT1, by omega, by omega, hrok, fun p H2 bs hp s2 hp2 hb2 hbs => ?_⟩
      have eLine : Sd.lineOut i .take took rds = match Sd.least (Sd.left took ((Sd.last rds).map Sd.dec)) with
          | none => some ⟨none, .non, .non⟩
          | some l => if rds.length < 2 then none else some ⟨none, .int l.2.2, .gift l.2.1 (took.getD l.2.1 0)⟩ := by
        unfold Sd.lineOut
        exact if_neg hne
      refine ⟨_, .inl ⟨_, SqL.of hp2, rfl⟩, ?_⟩
      cases hle : Sd.least (Sd.left took ((Sd.last rds).map Sd.dec)) with
      | none =>
        have e0 := (Sd.least_nil_iff _).mp hle
        rw [e0] at hbs
        have e1 : bs = [] := List.map_eq_nil_iff.mp hbs
        subst e1
        refine ⟨(by show 3 ≤ sizeLine; decide), fun t ht => ?_⟩
        refine hlo _ (by rw [eLine, hle]) _ _ ((s1.trans s2).trans (Sd.Same.new ht)) (show Sd.OutAt _ _ (some ⟨none, .non, .non⟩) from ⟨t, .non, .non, rfl, upd_same, rfl, rfl⟩)
      | some y =>
        have hnel : Sd.left took ((Sd.last rds).map Sd.dec) ≠ [] := fun e => by rw [(Sd.least_nil_iff _).mpr e] at hle; cases hle
        have hbne : bs ≠ [] := fun e => by
          rw [e] at hbs
          exact hnel (List.map_eq_nil_iff.mp hbs.symm)
        have hem2 : (bs.map fun b => V.ref b.1).isEmpty = false := by
          cases bs with
          | nil => exact absurd rfl hbne
          | cons b r => rfl
        rw [hem2]
        have hlr : (rps.map V.ref).length = rds.length := by rw [List.length_map]; exact Sd.Paired.len hR.2
        refine ⟨_, rfl, rs, _, rfl, .inl (SqL.of ((s1.trans s2) _ _ hR.1)), _, _, rfl, rfl, _, rfl, ?_⟩
        refine ite2 (fun c => ?_) (fun c => ?_)
        · have hc : (((rps.map V.ref).length : Nat) : Int) < 2 := of_decide_eq_true c
          refine hlo _ ?_ _ _ (s1.trans s2) (show Sd.OutAt _ _ none from rfl)
          rw [eLine, hle]
          exact if_pos (by omega)
        · have hc : ¬ ((((rps.map V.ref).length : Nat) : Int) < 2) := fun z => c (decide_eq_true z)
          refine ⟨_, rfl, _, rfl, D, tk, qs, _, took, rfl, hrows.same s2, s2 _ _ hT1, by omega, by omega, hrok, fun p3 H3 bs3 hp3 s3 hp33 hb3 hbs3 => ?_⟩
          have hb3ne : bs3 ≠ [] := fun e => by
            rw [e] at hbs3
            exact hnel (List.map_eq_nil_iff.mp hbs3.symm)
          have hl3 : bs3.length ≤ many := by
            have e1 : bs3.length = (bs3.map (·.2)).length := (List.length_map _).symm
            rw [e1, hbs3, List.length_map]
            unfold Sd.left
            refine Nat.le_trans (List.length_filterMap_le _ _) ?_
            rw [List.length_range, hrl2]
            exact Nat.le_refl _
          refine ⟨p3, bs3, rfl, SqL.of hp33, fun b hb => SqT.of (hb3 b hb), hb3ne, by omega, fun b hb hmin => ?_⟩
          -- it is the least
          have hbt : b.2 ∈ (Sd.left took ((Sd.last rds).map Sd.dec)).map Sd.trip := by
            rw [← hbs3]
            exact List.mem_map_of_mem hb
          obtain ⟨z, hz, ez⟩ := List.mem_map.mp hbt
          have ezy : z = y := Sd.trip_min (Sd.left_sorted _ _) hle hz fun c hc => by
            rw [ez]
            have hct : Sd.trip c ∈ bs3.map (·.2) := by
              rw [hbs3]
              exact List.mem_map_of_mem hc
            obtain ⟨b', hb', e'⟩ := List.mem_map.mp hct
            rw [← e']
            exact hmin b' hb'
          subst ezy
          have hbv : H3 b.1 = some (.tup [.int z.1, .int z.2.1, .int z.2.2]) := by
            rw [hb3 b hb, ← ez]
            rfl
          have hzr : z.2.1 < many := by
            unfold Sd.left at hz
            obtain ⟨h', hh', e'⟩ := List.mem_filterMap.mp hz
            rw [List.mem_range, hrl2] at hh'
            split at e'
            · cases e'
              exact hh'
            · cases e'
          refine ⟨_, rfl, b.1, _, _, _, rfl, rfl, SqT.of hbv, atI_nat (j := 1) rfl, ?_⟩
          have hT3 : H3 tk = some (.lst (took.map fun n : Nat => V.int (n : Int))) := (s2.trans s3) _ _ hT1
          have htk : took[z.2.1]? = some (took.getD z.2.1 0) := by rw [List.getD_eq_getElem?_getD, List.getElem?_eq_getElem (by omega)]; rfl
          refine ⟨_, rfl, b.1, _, _, _, rfl, rfl, SqT.of hbv, atI_nat (j := 2) rfl, _, rfl, _, rfl, _, rfl, tk, _, _, _, rfl, rfl, SqL.of hT3, atI_nat (by rw [List.getElem?_map, htk]; rfl), (by show 2 ≤ sizeLine; decide), fun t ht => ?_⟩
          have s4 := Sd.Same.new (o := .tup [.int z.2.1, .int (took.getD z.2.1 0 : Nat)]) ht
          refine ⟨(by show 3 ≤ sizeLine; decide), fun t2 ht2 => ?_⟩
          refine hlo _ ?_ _ _ ((((s1.trans s2).trans s3).trans s4).trans (Sd.Same.new ht2)) (show Sd.OutAt _ _ (some ⟨none, .int z.2.2, .gift z.2.1 (took.getD z.2.1 0)⟩) from ⟨t2, .int z.2.2, .ref t, rfl, upd_same, rfl, t, rfl, ?_⟩)
          · rw [eLine, hle]
            exact if_neg (by omega)
          · rw [upd_ne (ne_of_none upd_same ht2), upd_same]
    all_goals exact absurd ht (by intro z; cases z)
end

section
variable {P : Program} {w : World} {K : PySem.W.Frag} {mg : Str → Option Value} {base : Heap} {A_Boxes A_Hand A_Hall A_HandsError A_NoNumber A_NoBox A_NoHand A_NoDeed A_THING_OF A_WITH_A_NUMBER A_TELLING : Addr} {tT tG tH tD tC tL tV tM : Tok}
abbrev N__view : List Str := ["readings", "last", "hand", "number", "row"]
theorem sc__view : FnScope N__view ["readings"] (defScope s__view) := ⟨rfl, rfl, rfl, by decide +kernel, rfl, by decide +kernel, by decide +kernel⟩
theorem ok__view {f : Addr} {fd : FuncData} (F : Fun K "_view" "_view" s__view f fd) (T : (Txt K mg w A_Boxes A_Hand A_Hall A_HandsError A_NoNumber A_NoBox A_NoHand A_NoDeed A_THING_OF A_WITH_A_NUMBER A_TELLING tT tG tH tD tC tL tV tM))
    (C__row : Sd.Cal P w K mg base CX0 2 "_row" ["number"] (Sd.spRow))
    : FnOk P w K mg base CX0 3 f fd ["readings"] (Sd.spView) := by
  refine F.ok sc__view (fun vs H Q E h => ?_) (fun cdv A outer s H vs Q E hr h => ?_)
  · obtain ⟨rs, rps, rds, many, rfl, _⟩ := h
    rfl
  · obtain ⟨rs, rps, rds, many, rfl, hR, hrd, hm, hm0, hrl, q0, q⟩ := h
    refine ⟨_, (pss_cons (ps_if (pt_cmpR op_lt (pe_callB call_len_seq (by rfl) T.len (by decide +kernel) (pa_cons (pv 0) pa_nil)) pe_int (nomark _))
      (pss_one (ps_ret pe_non))
      pss_nil)
      (pss_cons (ps_setLc (i := 1) (own := [("number", 3)]) (g := gName 3) (by rfl) sc__view.nd rfl rfl (sw_true rfl rfl rfl (by decide +kernel)) (pi_list (pe_ix ix_list (pv 0) (pe_un un_neg pe_int) (fun _ _ => rfl))) (blkOk_by (own := [("number", 3)]) (N := N__view) (sc := defScope s__view) (by decide +kernel)) (fun _ _ _ _ _ => pg_name (i := 3) sc__view.nd rfl (Or.inl rfl)) (fun _ _ _ _ _ => pts_nil) (fun _ _ _ _ _ => (Sd.pe_fn C__row (hr.mono (by decide)) pass0 (pa_cons (pv 3) pa_nil))))
      (pss_cons (ps_if (pt_cmpR (op_eqD hr.units) (pe_ix ix_list (pv 0) (pe_un un_neg pe_int) (fun _ _ => rfl)) (pe_ix ix_list (pv 0) (pe_un un_neg pe_int) (fun _ _ => rfl)) (nomark _))
      (pss_one (ps_ret (pe_op op_cat (pe_lst (pa_cons (pe_callB (cr_sum rfl) (by rfl) T.sum (by decide +kernel) (pa_cons (pe_lc (own := [("row", 4)]) (g := gName 4) (by rfl) sc__view.nd (pi_list (pv 1)) (blkOk_by (own := [("row", 4)]) (N := N__view) (sc := defScope s__view) (by decide +kernel)) (fun _ _ _ _ _ => pg_name (i := 4) sc__view.nd rfl (Or.inl rfl)) (fun _ _ _ _ _ => pts_nil) (fun _ _ _ _ _ => (pe_ix (Sd.ixK (K := K) (r := rIxL) ix_list rfl) (pv 4) pe_int (fun _ _ => rfl)))) pa_nil)) pa_nil)) (pe_lc (own := [("row", 4)]) (g := gName 4) (by rfl) sc__view.nd (pi_list (pv 1)) (blkOk_by (own := [("row", 4)]) (N := N__view) (sc := defScope s__view) (by decide +kernel)) (fun _ _ _ _ _ => pg_name (i := 4) sc__view.nd rfl (Or.inl rfl)) (fun _ _ _ _ _ => pts_nil) (fun _ _ _ _ _ => (pe_ix (Sd.ixK (K := K) (r := rIxL) ix_list rfl) (pv 4) pe_int (fun _ _ => rfl)))))))
      pss_nil)
      (pss_cons (ps_for PassesOwn.never rfl (pi_range1 rfl T.range (pa_cons (pe_callB call_len_seq (by rfl) T.len (by decide +kernel) (pa_cons (pv 1) pa_nil)) pa_nil)) (pg_name (i := 2) sc__view.nd rfl (Or.inl rfl))
      (pss_one (ps_if (pt_cmpR op_ge (pe_op op_sub (pe_ix ix_list (pe_ix ix_list (pv 1) (pv 2) (fun _ _ => rfl)) pe_int (fun _ _ => rfl)) (pe_ix ix_list (Sd.pe_fn C__row (hr.mono (by decide)) pass0 (pa_cons (pe_ix ix_list (pe_ix ix_list (pv 0) pe_int (fun _ _ => rfl)) (pv 2) (fun _ _ => rfl)) pa_nil)) pe_int (fun _ _ => rfl))) pe_int (nomark _))
      (pss_one (ps_ret (pe_slice sl_list (pe_ix ix_list (pv 1) (pv 2) (fun _ _ => rfl)) (po_some (pe_glob (v := .int 2) rfl T.m_VIEW ⟨_, rfl⟩)) po_none)))
      pss_nil)))
      (pss_one (ps_ret pe_non)))))), ?_⟩
    have hlr : (rps.map V.ref).length = rds.length := by rw [List.length_map]; exact Sd.Paired.len hR.2
    refine ⟨_, rfl, rs, _, rfl, .inl (SqL.of hR.1), _, _, rfl, rfl, _, rfl, ?_⟩
    refine ite2 (fun c => ?_) (fun c => ?_)
    · have hc : (((rps.map V.ref).length : Nat) : Int) < 2 := of_decide_eq_true c
      exact q0 (by unfold Sd.view; exact if_pos (by omega)) _ (Same.refl _)
    have hc : ¬ ((((rps.map V.ref).length : Nat) : Int) < 2) := fun z => c (decide_eq_true z)
    have h2 : 2 ≤ rds.length := by omega
    have hne : rds ≠ [] := fun e => by rw [e] at h2; exact absurd h2 (by decide)
    have eV : Sd.view many rds = if Sd.last rds = Sd.last rds.dropLast then some (((Sd.last rds).map fun n => (Sd.row0 n).getD 0 0).sum :: (Sd.last rds).map fun n => (Sd.row0 n).getD 1 0) else Sd.borrowed (rds.headD []) (Sd.last rds) (List.range many) := by
      unfold Sd.view
      exact if_neg (by omega)
    obtain ⟨x, hx, hl⟩ := hR.neg (k := 1) (by decide) (by omega) (Sd.last_at hne)
    obtain ⟨x2, hx2, hl2⟩ := hR.neg (k := 2) (by decide) h2 (Sd.last2_at h2)
    have hlast : Sd.RdOk many 1 (Sd.last rds) := hrd _ (List.mem_of_getElem? (Sd.last_at hne))
    refine ⟨_, rfl, _, rfl, rs, _, _, _, rfl, rfl, SqL.of hR.1, hx, x, rfl, ⟨_, SqL.of hl⟩, fun D hD => ?_⟩
    refine lc_list (K := K) (xs := (Sd.last rds).map V.int) (fun k H' => Same H H' ∧ ∃ qs : List Addr, H' D = some (.lst (qs.map V.ref)) ∧ Paired (fun p r => H' p = some (.lst (r.map V.int))) qs (((Sd.last rds).take k).map Sd.row0) ∧ qs.length ≤ k ∧ ∀ y ∈ qs, y ≠ D) ⟨Sd.Same.new hD, [], upd_same, .nil, Nat.le_refl _, by simp⟩ (fun k H' _ h => SqL.of (h.1 _ _ hl)) ?_ ?_
    · rintro k y H' hy ⟨s', qs, hDl, hP, hql, hqD⟩
      obtain ⟨v, hv, rfl⟩ := Sd.ints_got hy
      have hkl := (List.getElem?_eq_some_iff.mp hv).1
      rw [hlast.1] at hkl
      refine ⟨rfl, _, rfl, v, many, rfl, hlast.pic (List.mem_of_getElem? hv), hm, fun p hp H2 s2 hp2 => ?_⟩
      have npD : p ≠ D := fun z => by rw [z, hDl] at hp; cases hp
      refine ⟨_, s2 _ _ hDl, by rw [List.length_map]; exact small1000 (by omega), fun z o e => ?_, qs ++ [p], ?_, ?_, ?_, ?_⟩
      · rw [upd_ne (ne_of_none e hD)]
        exact (s'.trans s2) _ _ e
      · rw [upd_same, List.map_append]
        rfl
      · have htk : (Sd.last rds).take (k + 1) = (Sd.last rds).take k ++ [v] := by
          obtain ⟨h1, h2⟩ := List.getElem?_eq_some_iff.mp hv
          rw [List.take_succ_eq_append_getElem h1, h2]
        rw [htk, List.map_append]
        refine Sd.Paired.app (Sd.Paired.mapM hP fun z hz r e => ?_) ?_
        · rw [upd_ne (hqD z hz)]
          exact s2 _ _ e
        · rw [upd_ne npD, hp2]
      · rw [List.length_append]
        exact Nat.succ_le_succ hql
      · intro z hz
        rcases List.mem_append.mp hz with hz | hz
        · exact hqD z hz
        · rw [List.mem_singleton.mp hz]
          exact npD
    rintro H1 ⟨s1, qs, hDl, hP, hql, hqD⟩
    rw [List.length_map, List.take_length] at hP
    have hrows : Sd.LstsAt H1 D qs ((Sd.last rds).map Sd.row0) := ⟨hDl, hP⟩
    have hqlen : qs.length = many := by rw [Sd.Paired.len hP, List.length_map, hlast.1]
    have hR1 := hR.same s1
    refine ⟨_, rfl, _, rfl, rs, _, _, _, rfl, rfl, SqL.of hR1.1, hx, _, rfl, _, rfl, rs, _, _, _, rfl, rfl, SqL.of hR1.1, hx2, ?_⟩
    refine ⟨Sd.dInts (Sd.last rds), Sd.dInts (Sd.last rds.dropLast), Sd.dInts_dp (SqL.of (s1 _ _ hl)), Sd.dInts_dp (SqL.of (s1 _ _ hl2)), Sd.dInts_shaped _, Sd.dInts_shaped _, _, rfl, ?_⟩
    rw [Sd.eqv_ints2]
    refine ite2 (fun c => ?_) (fun c => ?_)
    · have ec := of_decide_eq_true c
      rw [if_pos ec] at eV
      -- the sum of all puts, and the cells
      refine ⟨_, rfl, D, rfl, ⟨_, SqL.of hDl⟩, fun D1 hD1 => ?_⟩
      refine lc_list (K := K) (xs := qs.map V.ref) (fun k H' => Same H1 H' ∧ H' D1 = some (.lst ((((Sd.last rds).take k).map fun n => (Sd.row0 n).getD 0 0).map V.int))) ⟨Sd.Same.new hD1, upd_same⟩ (fun k H' _ h => SqL.of (h.1 _ _ hDl)) ?_ ?_
      · skip
        rintro k x H' hx ⟨s', hDl⟩
        rw [List.getElem?_map] at hx
        cases hq : qs[k]? with
        | none => rw [hq] at hx; cases hx
        | some p =>
          rw [hq] at hx
          cases hx
          obtain ⟨row, hr, hp⟩ := Sd.Paired.get2 hP hq
          rw [List.getElem?_map] at hr
          cases hn : (Sd.last rds)[k]? with
          | none => rw [hn] at hr; cases hr
          | some n =>
            rw [hn] at hr
            cases hr
            have htk : (Sd.last rds).take (k + 1) = (Sd.last rds).take k ++ [n] := by
              obtain ⟨h1, h2⟩ := List.getElem?_eq_some_iff.mp hn
              rw [List.take_succ_eq_append_getElem h1, h2]
            have hkl := (List.getElem?_eq_some_iff.mp hn).1
            have htwo := Sd.PicOk.two (hlast.pic (List.mem_of_getElem? hn))
            refine ⟨rfl, _, rfl, p, _, _, _, rfl, rfl, SqL.of (s' _ _ hp), atI_nat (j := 0) (Sd.ints_get htwo.1), ?_⟩
            refine ⟨_, hDl, by rw [List.length_map, List.length_map, List.length_take]; exact small1000 (by have := hlast.1; omega), fun z o e => ?_, ?_⟩
            · rw [upd_ne (ne_of_none e hD1)]
              exact s' _ _ e
            · rw [upd_same, htk, List.map_append, List.map_append]
              rfl
      rintro H2 ⟨s2, hD1l⟩
      rw [List.length_map, hqlen, ← hlast.1, List.take_length] at hD1l
      refine ⟨D1, _, rfl, SqL.of hD1l, (by show 1 ≤ sizeLine; decide), fun l1 hl1 => ?_⟩
      have s3 := Sd.Same.new (o := .lst [.int ((Sd.last rds).map fun n => (Sd.row0 n).getD 0 0).sum]) hl1
      have c3 : upd H2 l1 (.lst [.int ((Sd.last rds).map fun n => (Sd.row0 n).getD 0 0).sum]) l1 = some (.lst [.int ((Sd.last rds).map fun n => (Sd.row0 n).getD 0 0).sum]) := upd_same
      generalize upd H2 l1 (.lst [.int ((Sd.last rds).map fun n => (Sd.row0 n).getD 0 0).sum]) = H3 at s3 c3 ⊢
      have s13 := s2.trans s3
      have hDl3 := s13 _ _ hDl
      have hP3 : Paired (fun p r => H3 p = some (.lst (r.map V.int))) qs ((Sd.last rds).map Sd.row0) := Sd.Paired.mapM hP fun z _ r e => s13 _ _ e
      refine ⟨_, rfl, D, rfl, ⟨_, SqL.of hDl3⟩, fun D2 hD2 => ?_⟩
      have hP := hP3
      refine lc_list (K := K) (xs := qs.map V.ref) (fun k H' => Same H3 H' ∧ H' D2 = some (.lst ((((Sd.last rds).take k).map fun n => (Sd.row0 n).getD 1 0).map V.int))) ⟨Sd.Same.new hD2, upd_same⟩ (fun k H' _ h => SqL.of (h.1 _ _ hDl3)) ?_ ?_
      · skip
        rintro k x H' hx ⟨s', hDl⟩
        rw [List.getElem?_map] at hx
        cases hq : qs[k]? with
        | none => rw [hq] at hx; cases hx
        | some p =>
          rw [hq] at hx
          cases hx
          obtain ⟨row, hr, hp⟩ := Sd.Paired.get2 hP hq
          rw [List.getElem?_map] at hr
          cases hn : (Sd.last rds)[k]? with
          | none => rw [hn] at hr; cases hr
          | some n =>
            rw [hn] at hr
            cases hr
            have htk : (Sd.last rds).take (k + 1) = (Sd.last rds).take k ++ [n] := by
              obtain ⟨h1, h2⟩ := List.getElem?_eq_some_iff.mp hn
              rw [List.take_succ_eq_append_getElem h1, h2]
            have hkl := (List.getElem?_eq_some_iff.mp hn).1
            have htwo := Sd.PicOk.two (hlast.pic (List.mem_of_getElem? hn))
            refine ⟨rfl, _, rfl, p, _, _, _, rfl, rfl, SqL.of (s' _ _ hp), atI_nat (j := 1) (Sd.ints_get htwo.2), ?_⟩
            refine ⟨_, hDl, by rw [List.length_map, List.length_map, List.length_take]; exact small1000 (by have := hlast.1; omega), fun z o e => ?_, ?_⟩
            · rw [upd_ne (ne_of_none e hD2)]
              exact s' _ _ e
            · rw [upd_same, htk, List.map_append, List.map_append]
              rfl
      rintro H4 ⟨s4, hD2l⟩
      rw [List.length_map, hqlen, ← hlast.1, List.take_length] at hD2l
      refine ⟨l1, D2, _, _, rfl, rfl, s4 _ _ c3, hD2l, ?_, fun p hp => ?_⟩
      · rw [List.length_map, List.length_map, hlast.1]
        exact Nat.le_trans (by show 1 + _ ≤ 100; omega) (by decide : 100 ≤ sizeLine)
      have s14 := (s1.trans s13).trans s4
      refine q _ eV p _ (s14.free hp) (s14.trans (Sd.Same.new hp)) ?_
      rw [upd_same]
      rfl
    · have ec : ¬ (Sd.last rds = Sd.last rds.dropLast) := fun z => c (decide_eq_true z)
      rw [if_neg ec] at eV
      have hqm : (qs.map V.ref).length = many := by rw [List.length_map]; exact hqlen
      refine ⟨_, rfl, D, _, rfl, .inl (SqL.of hDl), _, rfl, by omega, by omega, ?_⟩
      have hfi : rds[0]? = some (rds.headD []) := by
        cases rds with
        | nil => exact absurd rfl hne
        | cons r rr => rfl
      have hfo : Sd.RdOk many 1 (rds.headD []) := hrd _ (List.mem_of_getElem? hfi)
      refine for_range (lo := 0) (n := ((qs.map V.ref).length : Int).toNat) (fun k σ H' => Same H1 H' ∧ Sd.borrowed (rds.headD []) (Sd.last rds) ((List.range many).drop k) = Sd.borrowed (rds.headD []) (Sd.last rds) (List.range many) ∧ ∃ v2, σ = [some (.ref rs), some (.ref D), v2, none, none]) ⟨Same.refl _, by rw [List.drop_zero], none, rfl⟩ ?_ ?_
      · rintro k σ H' hk ⟨s', hb, v2, rfl⟩
        have hkm : k < many := by omega
        have e0 : (0 : Int) + (k : Nat) = ((k : Nat) : Int) := Int.zero_add _
        have hl1 : (Sd.last rds)[k]? = some ((Sd.last rds).getD k 0) := by rw [List.getD_eq_getElem?_getD, List.getElem?_eq_getElem (by rw [hlast.1]; exact hkm)]; rfl
        have hf1 : (rds.headD [])[k]? = some ((rds.headD []).getD k 0) := by rw [List.getD_eq_getElem?_getD, List.getElem?_eq_getElem (by rw [hfo.1]; exact hkm)]; rfl
        have tw1 := Sd.PicOk.two (hlast.pic (List.mem_of_getElem? hl1))
        have pk2 := hfo.pic (List.mem_of_getElem? hf1)
        have tw2 := Sd.PicOk.two pk2
        obtain ⟨qp, hqp, hqr⟩ := (hrows.same s').at_ (show ((Sd.last rds).map Sd.row0)[k]? = some (Sd.row0 ((Sd.last rds).getD k 0)) by rw [List.getElem?_map, hl1]; rfl)
        have hqp' : atI (qs.map V.ref) ((0 : Int) + (k : Nat)) = some (.ref qp) := by rw [e0]; exact hqp
        obtain ⟨fp, hfp, hfr⟩ := (hR1.same s').at_ hfi
        have hD' := s' _ _ hDl
        have hR' := hR1.same s'
        refine ⟨_, rfl, _, rfl, D, _, _, _, rfl, rfl, SqL.of hD', hqp', qp, _, _, _, rfl, rfl, SqL.of hqr, atI_nat (j := 0) (Sd.ints_get tw1.1), ?_⟩
        refine ⟨_, rfl, rs, _, _, _, rfl, rfl, SqL.of hR'.1, hfp, _, rfl, fp, _, _, _, rfl, rfl, SqL.of hfr, at_of e0 (Sd.ints_get hf1), ?_⟩
        refine ⟨_, many, rfl, pk2, hm, fun p hp H2 s2 hp2 => ?_⟩
        refine ⟨p, _, _, _, rfl, rfl, SqL.of hp2, atI_nat (j := 0) (Sd.ints_get tw2.1), _, _, rfl, rfl, _, _, rfl, rfl, _, rfl, ?_⟩
        have hbk : Sd.borrowed (rds.headD []) (Sd.last rds) (List.range many) = if (Sd.row0 ((Sd.last rds).getD k 0)).getD 0 0 - (Sd.row0 ((rds.headD []).getD k 0)).getD 0 0 ≥ 2 then some ((Sd.row0 ((Sd.last rds).getD k 0)).drop 2) else Sd.borrowed (rds.headD []) (Sd.last rds) ((List.range many).drop (k + 1)) := by
          rw [← hb, Sd.range_drop hkm]
          rfl
        refine ite2 (fun c => ?_) (fun c => ?_)
        · have hc := of_decide_eq_true c
          rw [if_pos hc] at hbk
          have hD2 := s2 _ _ hD'
          have hq2 := s2 _ _ hqr
          refine ⟨_, rfl, _, rfl, D, _, _, _, rfl, rfl, SqL.of hD2, hqp', _, rfl, ?_⟩
          dsimp only [tNoPart]
          refine ⟨qp, _, rfl, SqL.of hq2, fun z hz => ?_⟩
          have s12 := (s1.trans s').trans s2
          refine q _ (by rw [eV, hbk]) z _ (s12.free hz) (s12.trans (Sd.Same.new hz)) ?_
          rw [upd_same]
          have := Sd.cut_drop (xs := (Sd.row0 ((Sd.last rds).getD k 0)).map V.int) (h := 2)
          rw [show ((2 : Nat) : Int) = 2 from rfl] at this
          rw [this, List.map_drop]
        · have hc := fun z => c (decide_eq_true z)
          rw [if_neg hc] at hbk
          exact ⟨s'.trans s2, hbk.symm, _, rfl⟩
      · rintro σ H' ⟨s', hb, v2, rfl⟩
        refine q0 ?_ _ (s1.trans s')
        rw [eV, ← hb, List.drop_eq_nil_of_le (by rw [List.length_range]; omega)]
        rfl
abbrev N_picture_outcome : List Str := ["deed", "hand", "readings", "view", "moment", "cells", "word", "own"]
theorem sc_picture_outcome : FnScope N_picture_outcome ["deed", "hand", "readings"] (defScope s_picture_outcome) := ⟨rfl, rfl, rfl, by decide +kernel, rfl, by decide +kernel, by decide +kernel⟩
theorem ok_picture_outcome {f : Addr} {fd : FuncData} (F : Fun K "picture_outcome" "picture_outcome" s_picture_outcome f fd) (T : (Txt K mg w A_Boxes A_Hand A_Hall A_HandsError A_NoNumber A_NoBox A_NoHand A_NoDeed A_THING_OF A_WITH_A_NUMBER A_TELLING tT tG tH tD tC tL tV tM))
    (C__view : Sd.Cal P w K mg base CX0 3 "_view" ["readings"] (Sd.spView))
    (C__row : Sd.Cal P w K mg base CX0 2 "_row" ["number"] (Sd.spRow))
    (C__cell_behind : Sd.Cal P w K mg base CX0 1 "_cell_behind" ["deed", "cell"] (Sd.spCellB))
    (C_packed : Sd.Cal P w K mg base CX0 1 "packed" ["row"] (Sd.spPacked K))
    : FnOk P w K mg base CX0 4 f fd ["deed", "hand", "readings"] (Sd.spPic) := by
  refine F.ok sc_picture_outcome (fun vs H Q E h => ?_) (fun cdv A outer s H vs Q E hr h => ?_)
  · obtain ⟨dp, rs, rps, rds, many, i, d, rfl, _⟩ := h
    rfl
  · obtain ⟨dp, rs, rps, rds, many, i, d, rfl, hd, ht0, ht4, hdo, hi, hR, hrd, hm, hrl, q⟩ := h
    refine ⟨_, (pss_cons (ps_set (i := 3) sc_picture_outcome.nd rfl (Or.inl rfl) (Sd.pe_fn C__view (hr.mono (by decide)) pass0 (pa_cons (pv 2) pa_nil)))
      (pss_cons (ps_if (pt_cmpR op_isN (pv 3) pe_non (nomark _))
      (pss_one (ps_ret pe_non))
      pss_nil)
      (pss_cons (ps_set (i := 4) sc_picture_outcome.nd rfl (Or.inl rfl) (pe_ix ix_list (pv 3) pe_int (fun _ _ => rfl)))
      (pss_cons (ps_set (i := 5) sc_picture_outcome.nd rfl (Or.inl rfl) (pe_slice sl_list (pv 3) (po_some pe_int) po_none))
      (pss_cons (ps_set (i := 6) sc_picture_outcome.nd rfl (Or.inl rfl) (pe_ix ix_tup (pv 0) pe_int (fun _ _ => rfl)))
      (pss_cons (ps_if (pt_cmpR op_eq (pv 6) pe_str (nomark _))
      (pss_one (ps_ret (pe_tup (pa_cons pe_non (pa_cons (pe_callTy call_tuple_of (by rfl) T.tuple (by decide +kernel) (pa_cons (pv 5) pa_nil)) (pa_cons (pv 4) pa_nil))))))
      pss_nil)
      (pss_cons (ps_if (pt_cmpR op_eq (pv 6) pe_str (nomark _))
      (pss_one (ps_ret (pe_tup (pa_cons pe_non (pa_cons (pe_callB (cr_sum rfl) (by rfl) T.sum (by decide +kernel) (pa_cons (pv 5) pa_nil)) (pa_cons (pv 4) pa_nil))))))
      pss_nil)
      (pss_cons (ps_if (pt_cmpR op_eq (pv 6) pe_str (nomark _))
      (pss_one (ps_ret (pe_tup (pa_cons pe_non (pa_cons (pe_callB (Sd.cr_maxP rfl) (by rfl) T.max (by decide +kernel) (pa_cons (pv 5) pa_nil)) (pa_cons (pv 4) pa_nil))))))
      pss_nil)
      (pss_cons (ps_set (i := 7) sc_picture_outcome.nd rfl (Or.inl rfl) (Sd.pe_fn C__row (hr.mono (by decide)) pass0 (pa_cons (pe_ix ix_list (pe_ix ix_list (pv 2) (pe_un un_neg pe_int) (fun _ _ => rfl)) (pv 1) (fun _ _ => rfl)) pa_nil)))
      (pss_one (ps_ret (pe_tup (pa_cons (Sd.pe_fn C_packed (hr.mono (by decide)) pass0 (pa_cons (pe_op op_cat (pe_lst (pa_cons (pe_op op_add (pe_ix ix_list (pv 7) pe_int (fun _ _ => rfl)) pe_int) (pa_cons (Sd.pe_fn C__cell_behind (hr.mono (by decide)) pass0 (pa_cons (pv 0) (pa_cons (pe_ix ix_list (pv 7) pe_int (fun _ _ => rfl)) pa_nil))) pa_nil))) (pv 3)) pa_nil)) (pa_cons pe_non (pa_cons pe_non pa_nil))))))))))))))), ?_⟩
    refine ⟨_, rfl, rs, rps, rds, many, rfl, hR, hrd, hm, by omega, hrl, fun hv H1 s1 => ?_, fun v hv p H1 hp s1 hp1 => ?_⟩
    · refine ⟨_, rfl, rfl, _, rfl, ?_⟩
      refine q _ _ s1 ?_
      unfold Sd.picOut
      rw [hv]
      rfl
    obtain ⟨hvl, hv6⟩ := Sd.view_ok hrd (by omega) hm hv
    cases v with
    | nil => rw [List.length_nil] at hvl; omega
    | cons mo cs =>
    have hcl : cs.length = many := by rw [List.length_cons] at hvl; omega
    refine ⟨_, rfl, rfl, _, rfl, ?_⟩
    refine ⟨_, rfl, p, _, _, _, rfl, rfl, SqL.of hp1, atI_nat (j := 0) rfl, _, rfl, _, rfl, ?_⟩
    dsimp only [tNoPart]
    refine ⟨p, _, rfl, SqL.of hp1, fun c hc => ?_⟩
    have s2 := Sd.Same.new (o := .lst (cs.map V.int)) hc
    have ecut : cutV ((mo :: cs).map V.int) (some (1 : Int)) none = cs.map V.int := by
      have := Sd.cut_drop (xs := (mo :: cs).map V.int) (h := 1)
      rw [show ((1 : Nat) : Int) = 1 from rfl] at this
      rw [this]
      rfl
    rw [ecut]
    have c2 : upd H1 c (.lst (cs.map V.int)) c = some (.lst (cs.map V.int)) := upd_same
    generalize upd H1 c (.lst (cs.map V.int)) = H2 at s2 c2 ⊢
    have s12 := s1.trans s2
    have hd2 : H2 dp = some (.tup d.vals) := s12 _ _ hd
    refine ⟨_, rfl, dp, _, _, _, rfl, rfl, SqT.of hd2, d.at0, _, rfl, rfl, _, rfl, ?_⟩
    have hcs0 : ∀ x ∈ cs, 0 ≤ x := fun x hx => (hv6 x (List.mem_cons_of_mem _ hx)).1
    have eP : ∀ o, Sd.picOut many i d rds = some o → ∀ u H', Same H H' → Sd.OutAt H' u (some o) → Q u H' := fun o e u H' s h => q u H' s (by rw [e]; exact h)
    cases d
    case look =>
      refine ⟨_, rfl, c, _, rfl, .inl ⟨SqL.of c2, fun t ht => ⟨_, rfl, (by show 3 ≤ sizeLine; decide), fun z hz => ?_⟩⟩⟩
      refine eP ⟨none, .view cs, .mom mo⟩ (by unfold Sd.picOut; rw [hv]; rfl) _ _ ((s12.trans (Sd.Same.new ht)).trans (Sd.Same.new hz)) ⟨z, .ref t, .int mo, rfl, upd_same, ⟨t, rfl, ?_⟩, rfl⟩
      rw [upd_ne (ne_of_none upd_same hz), upd_same]
    case sum =>
      refine ⟨_, rfl, rfl, _, rfl, _, rfl, c, _, rfl, SqL.of c2, _, rfl, (by show 3 ≤ sizeLine; decide), fun z hz => ?_⟩
      exact eP ⟨none, .int cs.sum, .mom mo⟩ (by unfold Sd.picOut; rw [hv]; rfl) _ _ (s12.trans (Sd.Same.new hz)) ⟨z, _, .int mo, rfl, upd_same, rfl, rfl⟩
    case top =>
      refine ⟨_, rfl, rfl, _, rfl, _, rfl, rfl, _, rfl, _, rfl, c, _, rfl, SqL.of c2, by omega, hcs0, _, rfl, (by show 3 ≤ sizeLine; decide), fun z hz => ?_⟩
      exact eP ⟨none, .int (Sd.top0 cs), .mom mo⟩ (by unfold Sd.picOut; rw [hv]; rfl) _ _ (s12.trans (Sd.Same.new hz)) ⟨z, _, .int mo, rfl, upd_same, rfl, rfl⟩
    case one => exact absurd rfl ht0
    case count => exact absurd rfl ht0
    case give n => exact absurd rfl ht4
    case take => exact absurd rfl ht4
    all_goals
      rename_i n
      have hne : rds ≠ [] := fun e => by
        rw [e] at hv
        cases hv
      obtain ⟨x, hx, hl⟩ := hR.neg (k := 1) (by decide) (by have := List.length_pos_iff.mpr hne; omega) (Sd.last_at hne)
      have hlast : Sd.RdOk many 1 (Sd.last rds) := hrd _ (List.mem_of_getElem? (Sd.last_at hne))
      have hl1 : (Sd.last rds)[i]? = some ((Sd.last rds).getD i 0) := by rw [List.getD_eq_getElem?_getD, List.getElem?_eq_getElem (by rw [hlast.1]; exact hi)]; rfl
      have pk := hlast.pic (List.mem_of_getElem? hl1)
      obtain ⟨pp, cc, vv, e1, e5, e3, _⟩ := Sd.PicOk.row0 pk
      refine ⟨_, rfl, rfl, _, rfl, _, rfl, rfl, _, rfl, ?_⟩
      refine ⟨_, rfl, _, rfl, rs, _, _, _, rfl, rfl, SqL.of (s12 _ _ hR.1), hx, _, rfl, x, _, _, _, rfl, rfl, SqL.of (s12 _ _ hl), atI_nat (Sd.ints_get hl1), _, many, rfl, pk, hm, fun o ho H3 s3 ho3 => ?_⟩
      rw [e1] at ho3
      have hd3 := s3 _ _ hd2
      have hpp := e5 pp List.mem_cons_self
      have hcc := e5 cc (List.mem_cons_of_mem _ List.mem_cons_self)
      refine ⟨_, rfl, o, _, _, _, rfl, rfl, SqL.of ho3, atI_nat (j := 0) rfl, _, _, rfl, rfl, ?_⟩
      refine ⟨_, rfl, _, rfl, o, _, _, _, rfl, rfl, SqL.of ho3, atI_nat (j := 1) rfl, dp, _, cc, rfl, hd3, ?_, (by show 2 ≤ sizeLine; decide), fun l hll => ?_⟩
      · first
          | exact ⟨n, .inl rfl⟩
          | exact ⟨n, .inr (.inl rfl)⟩
          | exact ⟨n, .inr (.inr rfl)⟩
      have nw : ∀ {H' : Hp} {d : Sd.Deed} {l : Addr}, H3 dp = some (.tup d.vals) → H' l = none → Same H' (upd H' l (.lst [.int (pp + 1), .int (Sd.behindCell cc d)])) ∧ Same H' (upd H' l (.lst ([.int (pp + 1), .int (Sd.behindCell cc d)] ++ (mo :: cs).map V.int))) := fun _ h => ⟨Sd.Same.new h, Sd.Same.new h⟩
      have s4 := (nw hd3 hll).1
      refine ⟨_, rfl, l, p, _, _, rfl, rfl, upd_same, s4 _ _ ((s2.trans s3) _ _ hp1), ?_, fun z hz => ?_⟩
      · rw [List.length_map, hvl]
        exact Nat.le_trans (by show 2 + _ ≤ 100; omega) (by decide : 100 ≤ sizeLine)
      have s5 := (nw hd3 hz).2
      refine ⟨z, _, rfl, SqL.of (xs := ((pp + 1) :: Sd.behindCell cc _ :: mo :: cs).map V.int) upd_same, ?_, (by show 3 ≤ sizeLine; decide), fun t htt => ?_⟩
      · refine Sd.In6.cons (by omega) (by omega) (Sd.In6.cons ?_ ?_ hv6)
        · show 0 ≤ _
          have := hdo.1
          first
            | exact this
            | (show 0 ≤ cc + n; omega)
            | (show 0 ≤ if n > cc then n else cc; split <;> omega)
        · show _ < (1000000 : Int)
          have := hdo.2
          first
            | (show n < 1000000; omega)
            | (show cc + n < 1000000; omega)
            | (show (if n > cc then n else cc) < 1000000; split <;> omega)
      refine eP ⟨some (Sd.enc ((pp + 1) :: Sd.behindCell cc _ :: mo :: cs)), .non, .non⟩ ?_ _ _ ((((s12.trans s3).trans s4).trans s5).trans (Sd.Same.new htt)) ⟨t, .non, .non, rfl, upd_same, rfl, rfl⟩
      unfold Sd.picOut
      rw [hv]
      show some (⟨some (Sd.enc (((Sd.row0 _).getD 0 0 + 1) :: Sd.behindCell ((Sd.row0 _).getD 1 0) _ :: mo :: cs)), .non, .non⟩ : Sd.Out) = _
      rw [e1] <;> rfl
end

section
variable {P : Program} {w : World} {K : PySem.W.Frag} {mg : Str → Option Value} {base : Heap} {A_Boxes A_Hand A_Hall A_HandsError A_NoNumber A_NoBox A_NoHand A_NoDeed A_THING_OF A_WITH_A_NUMBER A_TELLING : Addr} {tT tG tH tD tC tL tV tM : Tok}
abbrev N_Boxes_need : List Str := ["self", "place"]
theorem sc_Boxes_need : FnScope N_Boxes_need ["self", "place"] (defScope s_Boxes_need) := ⟨rfl, rfl, rfl, by decide +kernel, rfl, by decide +kernel, by decide +kernel⟩
theorem ok_Boxes_need {f : Addr} {fd : FuncData} (F : Fun K "_need" "Boxes._need" s_Boxes_need f fd) (T : (Txt K mg w A_Boxes A_Hand A_Hall A_HandsError A_NoNumber A_NoBox A_NoHand A_NoDeed A_THING_OF A_WITH_A_NUMBER A_TELLING tT tG tH tD tC tL tV tM))
    : FnOk P w K mg base CX0 1 f fd ["self", "place"] (Sd.spBNeed A_Boxes) := by
  refine F.ok sc_Boxes_need (fun vs H Q E h => ?_) (fun cdv A outer s H vs Q E hr h => ?_)
  · obtain ⟨b, l, xs, j, rfl, _⟩ := h
    rfl
  · obtain ⟨b, l, xs, j, rfl, ⟨⟨dx, hb⟩, hl⟩, hj, q⟩ := h
    refine ⟨_, (pss_one (ps_if (PW.pt (pw_or (pt_cmpR op_lt (pv 1) pe_int (nomark _)) (pw_or1 (pt_cmpR op_ge (pv 1) (pe_callB call_len_seq (by rfl) T.len (by decide +kernel) (pa_cons (pe_fld (pv 0) rfl) pa_nil)) (nomark _)))))
      (pss_one ps_never)
      pss_nil)), ?_⟩
    refine ⟨_, rfl, _, _, rfl, rfl, _, rfl, ?_⟩
    refine ite2 (fun c => absurd (of_decide_eq_true c) (by omega)) (fun _ => ?_)
    refine ⟨_, rfl, _, rfl, b, A_Boxes, dx, _, _, rfl, hb, T.cl_Boxes, T.n_Boxes__numbers, rfl, l, _, rfl, .inl (SqL.of hl), _, _, rfl, rfl, _, rfl, ?_⟩
    exact ite2 (fun c => absurd (of_decide_eq_true c) (by rw [List.length_map]; omega)) (fun _ => q)
abbrev N_Boxes_take : List Str := ["self", "place"]
theorem sc_Boxes_take : FnScope N_Boxes_take ["self", "place"] (defScope s_Boxes_take) := ⟨rfl, rfl, rfl, by decide +kernel, rfl, by decide +kernel, by decide +kernel⟩
theorem ok_Boxes_take {f : Addr} {fd : FuncData} (F : Fun K "take" "Boxes.take" s_Boxes_take f fd) (T : (Txt K mg w A_Boxes A_Hand A_Hall A_HandsError A_NoNumber A_NoBox A_NoHand A_NoDeed A_THING_OF A_WITH_A_NUMBER A_TELLING tT tG tH tD tC tL tV tM))
    (C_Boxes_need : Sd.CalM P w K mg base CX0 1 A_Boxes "_need" ["self", "place"] (Sd.spBNeed A_Boxes))
    : FnOk P w K mg base CX0 2 f fd ["self", "place"] (Sd.spBTake A_Boxes) := by
  refine F.ok sc_Boxes_take (fun vs H Q E h => ?_) (fun cdv A outer s H vs Q E hr h => ?_)
  · obtain ⟨b, l, xs, j, rfl, _⟩ := h
    rfl
  · obtain ⟨b, l, xs, j, rfl, hB, hj, q⟩ := h
    refine ⟨_, (pss_cons (ps_expr (Sd.pe_mt C_Boxes_need (hr.mono (by decide)) pass0 (pv 0) (pa_cons (pv 1) pa_nil)))
      (pss_one (ps_ret (pe_ix ix_list (pe_fld (pv 0) rfl) (pv 1) (fun _ _ => rfl))))), ?_⟩
    obtain ⟨⟨dx, hb⟩, hl⟩ := id hB
    have e : xs[j]? = some (xs.getD j 0) := by rw [List.getD_eq_getElem?_getD, List.getElem?_eq_getElem hj]; rfl
    refine ⟨_, rfl, b, dx, _, rfl, hb, rfl, _, rfl, b, l, xs, j, rfl, hB, hj, ?_⟩
    exact ⟨_, rfl, b, A_Boxes, dx, _, _, rfl, hb, T.cl_Boxes, T.n_Boxes__numbers, rfl, _, rfl, l, _, _, _, rfl, rfl, SqL.of hl, atI_nat (Sd.ints_get e), q⟩
abbrev N_Boxes_put : List Str := ["self", "place", "number"]
theorem sc_Boxes_put : FnScope N_Boxes_put ["self", "place", "number"] (defScope s_Boxes_put) := ⟨rfl, rfl, rfl, by decide +kernel, rfl, by decide +kernel, by decide +kernel⟩
theorem ok_Boxes_put {f : Addr} {fd : FuncData} (F : Fun K "put" "Boxes.put" s_Boxes_put f fd) (T : (Txt K mg w A_Boxes A_Hand A_Hall A_HandsError A_NoNumber A_NoBox A_NoHand A_NoDeed A_THING_OF A_WITH_A_NUMBER A_TELLING tT tG tH tD tC tL tV tM))
    (C_Boxes_need : Sd.CalM P w K mg base CX0 1 A_Boxes "_need" ["self", "place"] (Sd.spBNeed A_Boxes))
    : FnOk P w K mg base CX0 2 f fd ["self", "place", "number"] (Sd.spBPut A_Boxes) := by
  refine F.ok sc_Boxes_put (fun vs H Q E h => ?_) (fun cdv A outer s H vs Q E hr h => ?_)
  · obtain ⟨b, l, xs, j, n, rfl, _⟩ := h
    rfl
  · obtain ⟨b, l, xs, j, n, rfl, hB, hj, q⟩ := h
    refine ⟨_, (pss_cons (ps_expr (Sd.pe_mt C_Boxes_need (hr.mono (by decide)) pass0 (pv 0) (pa_cons (pv 1) pa_nil)))
      (pss_one (ps_asg (pv 2) (pg_sub (pe_fld (pv 0) rfl) (pv 1) set_list)))), ?_⟩
    obtain ⟨⟨dx, hb⟩, hl⟩ := id hB
    refine ⟨_, rfl, b, dx, _, rfl, hb, rfl, _, rfl, b, l, xs, j, rfl, hB, hj, ?_⟩
    refine ⟨_, rfl, _, rfl, b, A_Boxes, dx, _, _, rfl, hb, T.cl_Boxes, T.n_Boxes__numbers, rfl, _, rfl, l, _, _, j, rfl, rfl, hl, Sd.ixN_nat (by rw [List.length_map]; exact hj), ?_⟩
    rw [← List.map_set]
    exact q
abbrev N_Hand_is_through : List Str := ["self"]
theorem sc_Hand_is_through : FnScope N_Hand_is_through ["self"] (defScope s_Hand_is_through) := ⟨rfl, rfl, rfl, by decide +kernel, rfl, by decide +kernel, by decide +kernel⟩
theorem ok_Hand_is_through {f : Addr} {fd : FuncData} (F : Fun K "is_through" "Hand.is_through" s_Hand_is_through f fd) (T : (Txt K mg w A_Boxes A_Hand A_Hall A_HandsError A_NoNumber A_NoBox A_NoHand A_NoDeed A_THING_OF A_WITH_A_NUMBER A_TELLING tT tG tH tD tC tL tV tM))
    : FnOk P w K mg base CX0 1 f fd ["self"] (Sd.spThrough A_Hand) := by
  refine F.ok sc_Hand_is_through (fun vs H Q E h => ?_) (fun cdv A outer s H vs Q E hr h => ?_)
  · obtain ⟨g, i, m, plan, h, rfl, _⟩ := h
    rfl
  · obtain ⟨g, i, m, plan, h, rfl, hA, q⟩ := h
    refine ⟨_, (pss_one (ps_ret (pe_cmpR op_eq (pe_fld (pv 0) rfl) (pe_callB call_len_seq (by rfl) T.len (by decide +kernel) (pa_cons (pe_fld (pv 0) rfl) pa_nil)) (nomark _)))), ?_⟩
    obtain ⟨dx, ov, hob, hov⟩ := hA.ob
    obtain ⟨ps, hpl, hP⟩ := hA.pl
    refine ⟨_, rfl, g.hp, A_Hand, dx, _, _, rfl, hob, T.cl_Hand, T.n_Hand__ended, rfl, _, rfl, g.hp, A_Hand, dx, _, _, rfl, hob, T.cl_Hand, T.n_Hand__plan, rfl, g.pl, _, rfl, .inl (SqL.of hpl), rfl, ?_⟩
    have e : decide (V.int ((h.ended : Nat) : Int) = V.int (((ps.map V.ref).length : Nat) : Int)) = decide (h.ended = plan.length) := by
      rw [List.length_map, Sd.Paired.len hP]
      refine decide_eq_decide.mpr ⟨fun z => ?_, fun z => by rw [z]⟩
      injection z with z
      omega
    rw [e]
    exact q
abbrev N_Hand_outcome_of : List Str := ["self", "deed", "thing"]
theorem sc_Hand_outcome_of : FnScope N_Hand_outcome_of ["self", "deed"] (defScope s_Hand_outcome_of) := ⟨rfl, rfl, rfl, by decide +kernel, rfl, by decide +kernel, by decide +kernel⟩
theorem ok_Hand_outcome_of {f : Addr} {fd : FuncData} (F : Fun K "_outcome_of" "Hand._outcome_of" s_Hand_outcome_of f fd) (T : (Txt K mg w A_Boxes A_Hand A_Hall A_HandsError A_NoNumber A_NoBox A_NoHand A_NoDeed A_THING_OF A_WITH_A_NUMBER A_TELLING tT tG tH tD tC tL tV tM))
    (C_counter_outcome : Sd.Cal P w K mg base CX0 1 "counter_outcome" ["deed", "ones", "readings"] (Sd.spCnt))
    (C_line_outcome : Sd.Cal P w K mg base CX0 3 "line_outcome" ["deed", "hand", "took", "readings"] (Sd.spLine))
    (C_picture_outcome : Sd.Cal P w K mg base CX0 4 "picture_outcome" ["deed", "hand", "readings"] (Sd.spPic))
    : FnOk P w K mg base CX0 5 f fd ["self", "deed"] (Sd.spOutOf A_Hand) := by
  refine F.ok sc_Hand_outcome_of (fun vs H Q E h => ?_) (fun cdv A outer s H vs Q E hr h => ?_)
  · obtain ⟨g, dp, i, m, plan, h, d, rfl, _⟩ := h
    rfl
  · obtain ⟨g, dp, i, m, plan, h, d, rfl, hA, hd, hpre, q⟩ := h
    refine ⟨_, (pss_cons (ps_set (i := 2) sc_Hand_outcome_of.nd rfl (Or.inl rfl) (pe_ix (ix_kdict) (pe_glob (v := .ref A_THING_OF) rfl T.k_THING_OF.m rfl) (pe_ix ix_tup (pv 1) pe_int (fun _ _ => rfl)) (fun _ _ => rfl)))
      (pss_cons (ps_if (pt_cmpR op_eq (pv 2) (pe_glob (v := .int 0) rfl T.m_COUNTER ⟨_, rfl⟩) (nomark _))
      (pss_one (ps_ret (Sd.pe_fn C_counter_outcome (hr.mono (by decide)) pass0 (pa_cons (pv 1) (pa_cons (pe_fld (pv 0) rfl) (pa_cons (pe_fld (pv 0) rfl) pa_nil))))))
      pss_nil)
      (pss_cons (ps_if (pt_cmpR op_eq (pv 2) (pe_glob (v := .int 4) rfl T.m_LINE ⟨_, rfl⟩) (nomark _))
      (pss_one (ps_ret (Sd.pe_fn C_line_outcome (hr.mono (by decide)) pass0 (pa_cons (pv 1) (pa_cons (pe_fld (pv 0) rfl) (pa_cons (pe_fld (pv 0) rfl) (pa_cons (pe_fld (pv 0) rfl) pa_nil)))))))
      pss_nil)
      (pss_one (ps_ret (Sd.pe_fn C_picture_outcome (hr.mono (by decide)) pass0 (pa_cons (pv 1) (pa_cons (pe_fld (pv 0) rfl) (pa_cons (pe_fld (pv 0) rfl) pa_nil))))))))), ?_⟩
    obtain ⟨dx, ov, hob, hov⟩ := hA.ob
    have hR : Sd.LstsAt H g.rs g.rrs h.readings := ⟨hA.rs, hA.rr⟩
    refine ⟨_, rfl, dp, _, _, _, rfl, rfl, SqT.of hd, d.at0, A_THING_OF, _, _, rfl, rfl, T.k_THING_OF.get d.kv, ?_⟩
    refine ⟨_, rfl, rfl, _, rfl, ?_⟩
    by_cases e0 : d.thing = 0
    · rw [e0]
      refine ⟨_, rfl, _, rfl, g.hp, A_Hand, dx, _, _, rfl, hob, T.cl_Hand, T.n_Hand__ones, rfl, _, rfl, g.hp, A_Hand, dx, _, _, rfl, hob, T.cl_Hand, T.n_Hand__readings, rfl, ?_⟩
      refine ⟨dp, g.rs, d, h.ones, g.rrs, h.readings, rfl, hd, e0, hR, fun u H' s hu => q u H' s ?_⟩
      unfold Sd.outOf
      rw [if_pos e0]
      exact hu
    · have n0 : V.int ((d.thing : Nat) : Int) = V.int 0 → False := fun z => by
        injection z with z
        omega
      rw [decide_eq_false n0]
      refine ⟨_, rfl, rfl, _, rfl, ?_⟩
      by_cases e4 : d.thing = 4
      · rw [e4]
        refine ⟨_, rfl, _, rfl, g.hp, A_Hand, dx, _, _, rfl, hob, T.cl_Hand, T.n_Hand__hand, rfl, _, rfl, g.hp, A_Hand, dx, _, _, rfl, hob, T.cl_Hand, T.n_Hand__took, rfl, _, rfl, g.hp, A_Hand, dx, _, _, rfl, hob, T.cl_Hand, T.n_Hand__readings, rfl, ?_⟩
        refine ⟨dp, g.rs, g.tk, g.rrs, h.readings, h.took, m, i, d, rfl, hd, e4, hpre.ok, hpre.hi, hR, fun r hr => e4 ▸ hpre.rds r hr, hpre.m4, hpre.len, hA.tk, hpre.took, fun u H' s hu => q u H' s ?_⟩
        unfold Sd.outOf
        rw [if_neg e0, if_pos e4]
        exact hu
      · have n4 : V.int ((d.thing : Nat) : Int) = V.int 4 → False := fun z => by
          injection z with z
          omega
        rw [decide_eq_false n4]
        refine ⟨_, rfl, _, rfl, g.hp, A_Hand, dx, _, _, rfl, hob, T.cl_Hand, T.n_Hand__hand, rfl, _, rfl, g.hp, A_Hand, dx, _, _, rfl, hob, T.cl_Hand, T.n_Hand__readings, rfl, ?_⟩
        have rr : ∀ r ∈ h.readings, Sd.RdOk m 1 r := fun r hr => by
          obtain ⟨h1, h2⟩ := hpre.rds r hr
          refine ⟨h1, fun n hn => ?_⟩
          have := h2 n hn
          unfold Sd.BoxOk at this
          rw [if_neg e0, if_neg e4] at this
          exact this
        refine ⟨dp, g.rs, g.rrs, h.readings, m, i, d, rfl, hd, e0, e4, hpre.ok, hpre.hi, hR, rr, hpre.m4, hpre.len, fun u H' s hu => q u H' s ?_⟩
        unfold Sd.outOf
        rw [if_neg e0, if_neg e4]
        exact hu
abbrev N_Hand_keep : List Str := ["self", "number", "deed"]
theorem sc_Hand_keep : FnScope N_Hand_keep ["self", "number", "deed"] (defScope s_Hand_keep) := ⟨rfl, rfl, rfl, by decide +kernel, rfl, by decide +kernel, by decide +kernel⟩
theorem ok_Hand_keep {f : Addr} {fd : FuncData} (F : Fun K "_keep" "Hand._keep" s_Hand_keep f fd) (T : (Txt K mg w A_Boxes A_Hand A_Hall A_HandsError A_NoNumber A_NoBox A_NoHand A_NoDeed A_THING_OF A_WITH_A_NUMBER A_TELLING tT tG tH tD tC tL tV tM))
    (C_Hand_outcome_of : Sd.CalM P w K mg base CX0 5 A_Hand "_outcome_of" ["self", "deed"] (Sd.spOutOf A_Hand))
    : FnOk P w K mg base CX0 6 f fd ["self", "number", "deed"] (Sd.spKeepN A_Hand) := by
  refine F.ok sc_Hand_keep (fun vs H Q E h => ?_) (fun cdv A outer s H vs Q E hr h => ?_)
  · obtain ⟨g, dp, i, m, plan, h, d, n, rfl, _⟩ := h
    rfl
  · obtain ⟨g, dp, i, m, plan, h, d, n, rfl, hA, hd, hpre, hln, hrl, hro, hno, q⟩ := h
    refine ⟨_, (pss_cons (ps_expr (pe_bm PySem.F.plainAttrs_list PySem.F.slot_list_append PySem.F.type_list_append mt_append (pe_fld (pv 0) rfl) (pa_cons (pv 1) pa_nil)))
      (pss_one (ps_if (pt_cmpR op_eq (pe_callB call_len_seq (by rfl) T.len (by decide +kernel) (pa_cons (pe_fld (pv 0) rfl) pa_nil)) (pe_fld (pv 0) rfl) (nomark _))
      (pss_cons (ps_expr (pe_bm PySem.F.plainAttrs_list PySem.F.slot_list_append PySem.F.type_list_append mt_append (pe_fld (pv 0) rfl) (pa_cons (pe_fld (pv 0) rfl) pa_nil)))
      (pss_cons (ps_fld (pv 0) (pe_lst pa_nil) rfl)
      (pss_one (ps_fld (pv 0) (Sd.pe_mt C_Hand_outcome_of (hr.mono (by decide)) pass0 (pv 0) (pa_cons (pv 2) pa_nil)) rfl))))
      pss_nil))), ?_⟩
    obtain ⟨dx, ov, hob, hov⟩ := id hA.ob
    obtain ⟨ps, hpl, hP⟩ := id hA.pl
    obtain ⟨n1, n2, n3, n4, n5, n6⟩ := id hA.n1
    obtain ⟨m1, m2, m3⟩ := id hA.n2
    have nhp : ∀ {x : Addr} {xs : List V}, H x = some (.lst xs) → x ≠ g.hp := fun e z => by rw [z, hob] at e; cases e
    refine ⟨_, rfl, g.hp, A_Hand, dx, _, _, rfl, hob, T.cl_Hand, T.n_Hand__reading, rfl, .inl ⟨rfl, _, SqL.of hA.rd⟩, _, rfl, g.rd, _, _, rfl, rfl, hA.rd, by rw [List.length_map]; exact small1000 (by have := hpre.m4; omega), ?_⟩
    have c1 : upd H g.rd (.lst (h.reading.map V.int ++ [.int n])) g.rd = some (.lst ((h.reading ++ [n]).map V.int)) := by
      rw [upd_same, List.map_append]
      rfl
    have o1 : Sd.Off g.list H (upd H g.rd (.lst (h.reading.map V.int ++ [.int n]))) := Sd.Off.upd (by simp)
    have tu1 : Sd.Tu H (upd H g.rd (.lst (h.reading.map V.int ++ [.int n]))) := Sd.Tu.upd fun xs e => by
      rw [hA.rd] at e
      cases e
    have e1 : ∀ x, x ≠ g.rd → upd H g.rd (.lst (h.reading.map V.int ++ [.int n])) x = H x := fun x nx => upd_ne nx
    generalize upd H g.rd (.lst (h.reading.map V.int ++ [.int n])) = H1 at c1 o1 tu1 e1 ⊢
    have hob1 := (e1 g.hp (nhp hA.rd).symm).trans hob
    have hpl1 := (e1 g.pl n5).trans hpl
    have htk1 := (e1 g.tk n1).trans hA.tk
    have hrs1 := (e1 g.rs n3.symm).trans hA.rs
    have hrr1 : Paired (fun p r => H1 p = some (.lst (r.map V.int))) g.rrs h.readings := Sd.Paired.mapM hA.rr fun x hx y e => (e1 x (fun z => m2 (by rw [← z]; exact hx))).trans e
    refine ⟨_, rfl, g.hp, A_Hand, dx, _, _, rfl, hob1, T.cl_Hand, T.n_Hand__reading, rfl, g.rd, _, rfl, .inl (SqL.of c1), _, rfl, g.hp, A_Hand, dx, _, _, rfl, hob1, T.cl_Hand, T.n_Hand__many, rfl, rfl, _, rfl, ?_⟩
    have eD : decide (V.int ((((h.reading ++ [n]).map V.int).length : Nat) : Int) = V.int ((m : Nat) : Int)) = decide ((h.reading ++ [n]).length = m) := by
      rw [List.length_map]
      refine decide_eq_decide.mpr ⟨fun z => ?_, fun z => by rw [z]⟩
      injection z with z
      omega
    rw [eD]
    by_cases cm : (h.reading ++ [n]).length = m
    · rw [decide_eq_true cm]
      have eK : h.keep m i d n = { h with readings := h.readings ++ [h.reading ++ [n]], reading := [], out := Sd.outOf m i d { h with readings := h.readings ++ [h.reading ++ [n]] } } := by
        unfold Sd.HandM.keep
        exact if_pos cm
      rw [eK] at q
      refine ⟨_, rfl, g.hp, A_Hand, dx, _, _, rfl, hob1, T.cl_Hand, T.n_Hand__readings, rfl, .inl ⟨rfl, _, SqL.of hrs1⟩, _, rfl, g.hp, A_Hand, dx, _, _, rfl, hob1, T.cl_Hand, T.n_Hand__reading, rfl, g.rs, _, _, rfl, rfl, hrs1, by rw [List.length_map, Sd.Paired.len hA.rr]; exact small1000 (by omega), ?_⟩
      have c2 : upd H1 g.rs (.lst (g.rrs.map V.ref ++ [.ref g.rd])) g.rs = some (.lst ((g.rrs ++ [g.rd]).map V.ref)) := by
        rw [upd_same, List.map_append]
        rfl
      have o2 : Sd.Off g.list H1 (upd H1 g.rs (.lst (g.rrs.map V.ref ++ [.ref g.rd]))) := Sd.Off.upd (by simp)
      have tu2 : Sd.Tu H1 (upd H1 g.rs (.lst (g.rrs.map V.ref ++ [.ref g.rd]))) := Sd.Tu.upd fun xs e => by
        rw [hrs1] at e
        cases e
      have e2 : ∀ x, x ≠ g.rs → upd H1 g.rs (.lst (g.rrs.map V.ref ++ [.ref g.rd])) x = H1 x := fun x nx => upd_ne nx
      generalize upd H1 g.rs (.lst (g.rrs.map V.ref ++ [.ref g.rd])) = H2 at c2 o2 tu2 e2 ⊢
      have hob2 := (e2 g.hp (nhp hA.rs).symm).trans hob1
      refine ⟨(by show 0 ≤ sizeLine; decide), fun r2 hr2 => ?_⟩
      have s3 := Sd.Same.new (o := .lst []) hr2
      have c3 : upd H2 r2 (.lst []) r2 = some (.lst (([] : List Int).map V.int)) := upd_same
      generalize upd H2 r2 (.lst []) = H3 at s3 c3 ⊢
      have hob3 := s3 _ _ hob2
      refine ⟨_, rfl, g.hp, A_Hand, dx, _, rfl, hob3, T.cl_Hand, T.n_Hand__reading, (by show 11 < 1000; decide), ?_⟩
      have nr2 : r2 ≠ g.hp := (ne_of_none hob2 hr2).symm
      generalize hX : upd H3 g.hp _ = H4
      have e4 : ∀ x, x ≠ g.hp → H4 x = H3 x := fun x nx => by rw [← hX]; exact upd_ne nx
      have hob4 : H4 g.hp = some (.ins A_Hand dx (Sd.hfs (.int i) (.ref g.pl) (.int m) (.int h.ended) (.int h.ones) (.ref g.tk) (.int h.beg) ov (.ref r2) (.ref g.rs) (.int h.steps))) := by rw [← hX, upd_same]; rfl
      clear hX
      have tu4 : Sd.Tu H3 H4 := fun x xs e => (e4 x (fun z => by rw [z, hob3] at e; cases e)).trans e
      -- the hand as it is now
      let g2 : Sd.HG := ⟨g.hp, g.tk, r2, g.rs, g.pl, g.rrs ++ [g.rd]⟩
      let h2 : Sd.HandM := { h with readings := h.readings ++ [h.reading ++ [n]], reading := [] }
      have st : ∀ {x : Addr} {xs : List V}, H2 x = some (.lst xs) → H4 x = some (.lst xs) := fun e => (e4 _ (fun z => by rw [z, hob2] at e; cases e)).trans (s3 _ _ e)
      have ne2 : ∀ {x : Addr} {o : HO}, H2 x = some o → x ≠ r2 := fun e => ne_of_none e hr2
      have htk2 := (e2 g.tk n2).trans htk1
      have hpl2 := (e2 g.pl n6).trans hpl1
      have hrd2 := (e2 g.rd n3).trans c1
      have hrr2 : Paired (fun p r => H2 p = some (.lst (r.map V.int))) g.rrs h.readings := Sd.Paired.mapM hrr1 fun x hx y e => (e2 x (fun z => m3 (by rw [← z]; exact hx))).trans e
      have tuA : Sd.Tu H H4 := ((tu1.trans tu2).trans (Sd.Tu.same s3)).trans tu4
      have A4 : Sd.HandAt A_Hand H4 g2 i m plan h2 := by
        refine ⟨⟨dx, ov, hob4, hov.tu tuA⟩, ⟨ps, st hpl2, hP.tu tuA⟩, st htk2, (e4 r2 nr2).trans c3, st c2, ?_, ⟨ne2 htk2, n2, (ne2 c2).symm, n4, ne2 hpl2, n6⟩, ⟨?_, ?_, ?_⟩⟩
        · exact Sd.Paired.app (Sd.Paired.mapM hrr2 fun x _ y e => st e) (st hrd2)
        · intro mm
          rcases List.mem_append.mp mm with mm | mm
          · exact m1 mm
          · exact n1 (List.mem_singleton.mp mm)
        · intro mm
          rcases List.mem_append.mp mm with mm | mm
          · have : ∃ y, H2 r2 = some (.lst (y : List V)) := by
              obtain ⟨k, hk, ek⟩ := List.mem_iff_getElem.mp mm
              obtain ⟨y, _, hy⟩ := Sd.Paired.get2 hrr2 (show g.rrs[k]? = some r2 by rw [List.getElem?_eq_getElem hk, ek])
              exact ⟨_, hy⟩
            obtain ⟨y, hy⟩ := this
            rw [hr2] at hy
            cases hy
          · exact ne2 hrd2 (List.mem_singleton.mp mm).symm
        · intro mm
          rcases List.mem_append.mp mm with mm | mm
          · exact m3 mm
          · exact n3 (List.mem_singleton.mp mm).symm
      have oA : Sd.Off g.list H H4 := (o1.trans o2).trans ((Sd.Off.of_same s3).trans fun x o nx e => (e4 x (fun z => nx (by rw [z]; exact List.mem_cons_self))).trans e)
      have hd4 : H4 dp = some (.tup d.vals) := tuA _ _ hd
      have pre2 : Sd.RdPre m d h2 i := ⟨hpre.hi, hpre.m4, hpre.ok, hpre.took, fun r hr => by
        rcases List.mem_append.mp hr with hr | hr
        · exact hpre.rds r hr
        · rw [List.mem_singleton.mp hr]
          exact ⟨cm, fun x hx => by
            rcases List.mem_append.mp hx with hx | hx
            · exact hro x hx
            · rw [List.mem_singleton.mp hx]
              exact hno⟩, by show (h.readings ++ [_]).length ≤ 1000; rw [List.length_append]; exact hln⟩
      refine ⟨_, rfl, g.hp, dx, _, rfl, hob4, rfl, _, rfl, g2, dp, i, m, plan, h2, d, rfl, A4, hd4, pre2, fun u H5 s5 hu => ?_⟩
      have hob5 := s5 _ _ hob4
      refine ⟨_, rfl, g.hp, A_Hand, dx, _, rfl, hob5, T.cl_Hand, T.n_Hand__outcome, (by show 11 < 1000; decide), ?_⟩
      have A5 := A4.same s5
      have hoff : Sd.Off [g.hp] H5 (upd H5 g.hp (.ins A_Hand dx (putF "_outcome" u (Sd.hfs (.int i) (.ref g.pl) (.int m) (.int h.ended) (.int h.ones) (.ref g.tk) (.int h.beg) ov (.ref r2) (.ref g.rs) (.int h.steps))))) := Sd.Off.upd (List.mem_singleton.mpr rfl)
      have tu6 : Sd.Tu H5 (upd H5 g.hp (.ins A_Hand dx (putF "_outcome" u (Sd.hfs (.int i) (.ref g.pl) (.int m) (.int h.ended) (.int h.ones) (.ref g.tk) (.int h.beg) ov (.ref r2) (.ref g.rs) (.int h.steps))))) := Sd.Tu.upd fun xs e => by
        rw [hob5] at e
        cases e
      have lne : ∀ {x : Addr} {xs : List V}, H5 x = some (.lst xs) → x ≠ g.hp := fun e z => by rw [z, hob5] at e; cases e
      refine q g2 _ ⟨⟨dx, u, upd_same, hu.tu tu6⟩, ?_, ?_, ?_, ?_, ?_, A5.n1, A5.n2⟩ ⟨rfl, fun x hx => ?_⟩ ((oA.trans (Sd.Off.of_same s5)).trans (Sd.Off.upd List.mem_cons_self))
      · obtain ⟨ps5, h1, h2⟩ := A5.pl
        exact ⟨ps5, by rw [upd_ne (lne h1)]; exact h1, h2.tu tu6⟩
      · rw [upd_ne (lne A5.tk)]; exact A5.tk
      · rw [upd_ne (lne A5.rd)]; exact A5.rd
      · rw [upd_ne (lne A5.rs)]; exact A5.rs
      · exact Sd.Paired.mapM A5.rr fun x _ y e => by rw [upd_ne (lne e)]; exact e
      · simp only [Sd.HG.list, g2, List.mem_cons, List.mem_append, List.not_mem_nil, or_false] at hx ⊢
        rcases hx with rfl | rfl | rfl | rfl | rfl | hx | rfl
        · exact .inl (.inl rfl)
        · exact .inl (.inr (.inl rfl))
        · refine .inr ?_
          cases z : H x with
          | none => rfl
          | some o =>
            exfalso
            have nn : x ∉ g.list := fun mm => by
              rcases List.mem_cons.mp mm with rfl | mm
              · exact nr2 rfl
              rcases List.mem_cons.mp mm with rfl | mm
              · exact ne2 htk2 rfl
              rcases List.mem_cons.mp mm with rfl | mm
              · exact ne2 hrd2 rfl
              rcases List.mem_cons.mp mm with rfl | mm
              · exact ne2 c2 rfl
              rcases List.mem_cons.mp mm with rfl | mm
              · exact ne2 hpl2 rfl
              · obtain ⟨k, hk, ek⟩ := List.mem_iff_getElem.mp mm
                obtain ⟨y, _, hy⟩ := Sd.Paired.get2 hrr2 (show g.rrs[k]? = some x by rw [List.getElem?_eq_getElem hk, ek])
                exact ne2 hy rfl
            have := (o1.trans o2) x o nn z
            rw [hr2] at this
            cases this
        · exact .inl (.inr (.inr (.inr (.inl rfl))))
        · exact .inl (.inr (.inr (.inr (.inr (.inl rfl)))))
        · exact .inl (.inr (.inr (.inr (.inr (.inr hx)))))
        · exact .inl (.inr (.inr (.inl rfl)))
    · rw [decide_eq_false cm]
      have eK : h.keep m i d n = { h with reading := h.reading ++ [n] } := by
        unfold Sd.HandM.keep
        exact if_neg cm
      rw [eK] at q
      exact q g H1 ⟨⟨dx, ov, hob1, hov.tu tu1⟩, ⟨ps, hpl1, hP.tu tu1⟩, htk1, c1, hrs1, hrr1, hA.n1, hA.n2⟩ ⟨rfl, fun x hx => .inl hx⟩ o1
end

section
variable {P : Program} {w : World} {K : PySem.W.Frag} {mg : Str → Option Value} {base : Heap} {A_Boxes A_Hand A_Hall A_HandsError A_NoNumber A_NoBox A_NoHand A_NoDeed A_THING_OF A_WITH_A_NUMBER A_TELLING : Addr} {tT tG tH tD tC tL tV tM : Tok}
abbrev N_Hand_end : List Str := ["self", "deed", "now", "answer", "mark"]
theorem sc_Hand_end : FnScope N_Hand_end ["self", "deed", "now"] (defScope s_Hand_end) := ⟨rfl, rfl, rfl, by decide +kernel, rfl, by decide +kernel, by decide +kernel⟩
theorem ok_Hand_end {f : Addr} {fd : FuncData} (F : Fun K "_end" "Hand._end" s_Hand_end f fd) (T : (Txt K mg w A_Boxes A_Hand A_Hall A_HandsError A_NoNumber A_NoBox A_NoHand A_NoDeed A_THING_OF A_WITH_A_NUMBER A_TELLING tT tG tH tD tC tL tV tM))
    : FnOk P w K mg base CX0 1 f fd ["self", "deed", "now"] (Sd.spHEnd2 A_Hand) := by
  refine F.ok sc_Hand_end (fun vs H Q E h => ?_) (fun cdv A outer s H vs Q E hr h => ?_)
  · obtain ⟨g, dp, i, m, now, plan, h, d, o, rfl, _⟩ := h
    rfl
  · obtain ⟨g, dp, i, m, now, plan, h, d, o, rfl, hA, hd, ho, htk, hmk, q⟩ := h
    refine ⟨_, (pss_cons (ps_set (i := 3) sc_Hand_end.nd rfl (Or.inl rfl) (pe_ix ix_tup (pe_fld (pv 0) rfl) pe_int (fun _ _ => rfl)))
      (pss_cons (ps_set (i := 4) sc_Hand_end.nd rfl (Or.inl rfl) (pe_ix ix_tup (pe_fld (pv 0) rfl) pe_int (fun _ _ => rfl)))
      (C8.pss_cut (ps_if (pt_cmpR op_eq (pe_ix ix_tup (pv 1) pe_int (fun _ _ => rfl)) pe_str (nomark _))
      (pss_one (ps_fldaug (pv 0) pe_int in_add))
      pss_nil)
      (C8.pss_cut (ps_if (PW.pt (pw_and (pt_cmpR op_eq (pe_ix ix_tup (pv 1) pe_int (fun _ _ => rfl)) pe_str (nomark _)) (pw_and1 (pt_cmpR op_notN (pv 4) pe_non (nomark _)))))
      (pss_one (ps_augS (pe_fld (pv 0) rfl) (pe_ix ix_tup (pv 4) pe_int (fun _ _ => rfl)) Sd.pget_list pe_int ip_add set_list))
      pss_nil)
      (pss_cons (ps_fldaug (pv 0) pe_int in_add)
      (pss_cons (ps_fld (pv 0) pe_int rfl)
      (pss_one (ps_ret (pe_tup (pa_cons (pe_tup (pa_cons (pe_fld (pv 0) rfl) (pa_cons (pv 1) (pa_cons (pe_fld (pv 0) rfl) (pa_cons (pv 2) (pa_cons (pv 3) pa_nil)))))) (pa_cons (pv 4) pa_nil))))))))))), ?_⟩
    obtain ⟨dx, ov, hob, hov⟩ := id hA.ob
    rw [ho] at hov
    obtain ⟨op, av, mv, rfl, hop, hav, hmv⟩ := hov
    refine ⟨_, rfl, g.hp, A_Hand, dx, _, _, rfl, hob, T.cl_Hand, T.n_Hand__outcome, rfl, op, _, _, _, rfl, rfl, SqT.of hop, atI_nat (j := 1) rfl, ?_⟩
    refine ⟨_, rfl, g.hp, A_Hand, dx, _, _, rfl, hob, T.cl_Hand, T.n_Hand__outcome, rfl, op, _, _, _, rfl, rfl, SqT.of hop, atI_nat (j := 2) rfl, ?_⟩
    have hd' : H dp = some (.tup d.vals) := hd
    have tuA : ∀ {H' : Hp}, Sd.Off g.list H H' → Sd.Tu H H' := fun o => Sd.Tu.off o hA.noTup
    -- one more counted
    refine ⟨fun σ' H' => σ' = [some (.ref g.hp), some (.ref dp), some (.int now), some av, some mv] ∧ Sd.HandAt A_Hand H' g i m plan { h with ones := if d = .one then h.ones + 1 else h.ones } ∧ Sd.Off g.list H H', ?_, ?_⟩
    · refine ⟨_, rfl, dp, _, _, _, rfl, rfl, SqT.of hd, d.at0, rfl, _, rfl, ?_⟩
      by_cases e1 : d = .one
      · subst e1
        refine ⟨_, rfl, g.hp, A_Hand, dx, _, _, rfl, hob, T.cl_Hand, T.n_Hand__ones, rfl, _, _, rfl, rfl, _, _, hob, (by show 11 < 1000; decide), rfl, ?_, Sd.Off.upd List.mem_cons_self⟩
        exact hA.store (h' := { h with ones := if Sd.Deed.one = .one then h.ones + 1 else h.ones }) rfl rfl rfl (ov := .ref op) (by rw [ho]; exact ⟨op, av, mv, rfl, hop, hav, hmv⟩) hob
      · have e2 : ({ h with ones := if d = .one then h.ones + 1 else h.ones } : Sd.HandM) = h := by rw [if_neg e1]
        rw [e2]
        have e3 : decide (V.str d.word = V.str "one") = false := by
          cases d <;> first | exact absurd rfl e1 | rfl
        rw [e3]
        exact ⟨rfl, hA, Sd.Off.refl _ _⟩
    rintro σ1 H1 ⟨rfl, A1, o1⟩
    have hd1 := tuA o1 _ _ hd'
    have hmv1 := hmv.tu (tuA o1)
    -- a gift told
    refine ⟨fun σ' H' => σ' = [some (.ref g.hp), some (.ref dp), some (.int now), some av, some mv] ∧ Sd.HandAt A_Hand H' g i m plan { h with ones := if d = .one then h.ones + 1 else h.ones, took := (h.done i d now o).1.took } ∧ Sd.Off g.list H H', ?_, ?_⟩
    · refine ⟨_, rfl, dp, _, _, _, rfl, rfl, SqT.of hd1, d.at0, rfl, _, rfl, ?_⟩
      by_cases e1 : d = .take
      · subst e1
        rcases hmk rfl with hm0 | ⟨k, l, hm1, hk⟩
        · rw [hm0] at hmv1
          cases (show mv = .non from hmv1)
          have e2 : (h.done i .take now o).1.took = h.took := by unfold Sd.HandM.done; rw [hm0]
          refine ⟨_, rfl, rfl, _, rfl, rfl, ?_, o1⟩
          rw [e2]
          exact A1
        · rw [hm1] at hmv1
          obtain ⟨mp, rfl, hmp⟩ := hmv1
          have e2 : (h.done i .take now o).1.took = h.took.set k (h.took.getD k 0 + 1) := by unfold Sd.HandM.done; rw [hm1]
          obtain ⟨dx1, ov1, hob1, _⟩ := id A1.ob
          have hk1 : h.took[k]? = some (h.took.getD k 0) := by rw [List.getD_eq_getElem?_getD, List.getElem?_eq_getElem (by omega)]; rfl
          have a1 : atI (h.took.map fun n : Nat => V.int (n : Int)) ((k : Nat) : Int) = some (.int (h.took.getD k 0 : Nat)) := atI_nat (by rw [List.getElem?_map, hk1]; rfl)
          refine ⟨_, rfl, rfl, _, rfl, ?_⟩
          refine ⟨_, rfl, g.hp, A_Hand, dx1, _, _, rfl, hob1, T.cl_Hand, T.n_Hand__took, rfl, _, rfl, mp, _, _, _, rfl, rfl, SqT.of hmp, atI_nat (j := 0) rfl, ?_⟩
          refine ⟨g.tk, _, _, _, rfl, rfl, SqL.of A1.tk, a1, _, _, rfl, rfl, g.tk, _, _, k, rfl, rfl, A1.tk, Sd.ixN_nat (by rw [List.length_map]; show k < h.took.length; omega), ?_⟩
          have e3 : (h.took.map fun n : Nat => V.int (n : Int)).set k (.int (((h.took.getD k 0 : Nat) : Int) + 1)) = (h.took.set k (h.took.getD k 0 + 1)).map fun n : Nat => V.int (n : Int) := by
            rw [List.map_set]
            rfl
          refine ⟨rfl, ?_, o1.trans ?_⟩
          · rw [e2]
            have := A1.took (h.took.set k (h.took.getD k 0 + 1))
            rw [← e3] at this
            exact this
          · exact Sd.Off.upd (by simp)
      · have e2 : (h.done i d now o).1.took = h.took := by
          unfold Sd.HandM.done
          cases d <;> first | exact absurd rfl e1 | rfl
        have e3 : decide (V.str d.word = V.str "take") = false := by
          cases d <;> first | exact absurd rfl e1 | rfl
        rw [e3, e2]
        exact ⟨rfl, A1, o1⟩
    rintro σ2 H2 ⟨rfl, A2, o2⟩
    obtain ⟨dx2, ov2, hob2, hov2⟩ := id A2.ob
    refine ⟨_, rfl, g.hp, A_Hand, dx2, _, _, rfl, hob2, T.cl_Hand, T.n_Hand__ended, rfl, _, _, rfl, rfl, _, _, hob2, (by show 11 < 1000; decide), ?_⟩
    have A3 := A2.store (h' := { h with ones := if d = .one then h.ones + 1 else h.ones, took := (h.done i d now o).1.took, ended := h.ended + 1 }) rfl rfl rfl hov2 hob2
    have hob3 : upd H2 g.hp (.ins A_Hand dx2 (Sd.hfs (.int i) (.ref g.pl) (.int m) (.int (h.ended + 1 : Nat)) (.int (if d = .one then h.ones + 1 else h.ones)) (.ref g.tk) (.int h.beg) ov2 (.ref g.rd) (.ref g.rs) (.int h.steps))) g.hp = some (.ins A_Hand dx2 (Sd.hfs (.int i) (.ref g.pl) (.int m) (.int (h.ended + 1 : Nat)) (.int (if d = .one then h.ones + 1 else h.ones)) (.ref g.tk) (.int h.beg) ov2 (.ref g.rd) (.ref g.rs) (.int h.steps))) := upd_same
    have o3 : Sd.Off g.list H _ := o2.trans (Sd.Off.upd (o := .ins A_Hand dx2 (Sd.hfs (.int i) (.ref g.pl) (.int m) (.int (h.ended + 1 : Nat)) (.int (if d = .one then h.ones + 1 else h.ones)) (.ref g.tk) (.int h.beg) ov2 (.ref g.rd) (.ref g.rs) (.int h.steps))) (List.mem_cons_self (a := g.hp)))
    refine ⟨_, rfl, g.hp, A_Hand, dx2, _, rfl, hob3, T.cl_Hand, T.n_Hand_steps, (by show 11 < 1000; decide), ?_⟩
    have hov3 : Sd.OutAt (upd H2 g.hp (.ins A_Hand dx2 (Sd.hfs (.int i) (.ref g.pl) (.int m) (.int (h.ended + 1 : Nat)) (.int (if d = .one then h.ones + 1 else h.ones)) (.ref g.tk) (.int h.beg) ov2 (.ref g.rd) (.ref g.rs) (.int h.steps)))) ov2 h.out := hov2.tu (Sd.Tu.upd fun xs e => by rw [hob2] at e; cases e)
    have A4 := A3.store (h' := (h.done i d now o).1) rfl rfl rfl hov3 hob3
    have o4 := o3.trans (Sd.Off.upd (o := .ins A_Hand dx2 (Sd.hfs (.int i) (.ref g.pl) (.int m) (.int (h.ended + 1 : Nat)) (.int (if d = .one then h.ones + 1 else h.ones)) (.ref g.tk) (.int h.beg) ov2 (.ref g.rd) (.ref g.rs) (.int 0))) (List.mem_cons_self (a := g.hp)))
    generalize hX : upd (upd H2 _ _) _ _ = H4
    have hX' : upd (upd H2 g.hp (.ins A_Hand dx2 (Sd.hfs (.int i) (.ref g.pl) (.int m) (.int (h.ended + 1 : Nat)) (.int (if d = .one then h.ones + 1 else h.ones)) (.ref g.tk) (.int h.beg) ov2 (.ref g.rd) (.ref g.rs) (.int h.steps)))) g.hp (.ins A_Hand dx2 (Sd.hfs (.int i) (.ref g.pl) (.int m) (.int (h.ended + 1 : Nat)) (.int (if d = .one then h.ones + 1 else h.ones)) (.ref g.tk) (.int h.beg) ov2 (.ref g.rd) (.ref g.rs) (.int 0))) = H4 := hX
    have A4' : Sd.HandAt A_Hand H4 g i m plan (h.done i d now o).1 := by
      rw [← hX']
      exact A4
    rw [hX'] at o4
    clear A4 hX hX'
    have tu4 := tuA o4
    obtain ⟨dx4, ov4, hob4, _⟩ := id A4'.ob
    have ebeg : (h.done i d now o).1.beg = h.beg := rfl
    refine ⟨_, rfl, g.hp, A_Hand, dx4, _, _, rfl, hob4, T.cl_Hand, T.n_Hand__hand, rfl, _, rfl, _, rfl, g.hp, A_Hand, dx4, _, _, rfl, hob4, T.cl_Hand, T.n_Hand__begin, rfl, _, rfl, _, rfl, (by show 5 ≤ sizeLine; decide), fun r hr => ?_⟩
    refine ⟨_, rfl, (by show 2 ≤ sizeLine; decide), fun t ht => ?_⟩
    have s5 := Sd.Same.new (o := .tup [.int i, .ref dp, .int h.beg, .int now, av]) hr
    have s6 := Sd.Same.new (o := .tup [.ref r, mv]) ht
    refine q t _ ⟨t, .ref r, mv, rfl, upd_same, ⟨r, dp, av, rfl, s6 _ _ upd_same, (tu4.trans (Sd.Tu.same (s5.trans s6))) _ _ hd', hav.tu (tu4.trans (Sd.Tu.same (s5.trans s6)))⟩, hmv.tu (tu4.trans (Sd.Tu.same (s5.trans s6)))⟩ (A4'.same (s5.trans s6)) (o4.trans (Sd.Off.of_same (s5.trans s6)))
end

section
variable {P : Program} {w : World} {K : PySem.W.Frag} {mg : Str → Option Value} {base : Heap} {A_Boxes A_Hand A_Hall A_HandsError A_NoNumber A_NoBox A_NoHand A_NoDeed A_THING_OF A_WITH_A_NUMBER A_TELLING : Addr} {tT tG tH tD tC tL tV tM : Tok}
abbrev N_Hand_step : List Str := ["self", "boxes", "now", "deed", "first", "number", "place", "touch"]
theorem sc_Hand_step : FnScope N_Hand_step ["self", "boxes", "now"] (defScope s_Hand_step) := ⟨rfl, rfl, rfl, by decide +kernel, rfl, by decide +kernel, by decide +kernel⟩
theorem ok_Hand_step {f : Addr} {fd : FuncData} (F : Fun K "step" "Hand.step" s_Hand_step f fd) (T : (Txt K mg w A_Boxes A_Hand A_Hall A_HandsError A_NoNumber A_NoBox A_NoHand A_NoDeed A_THING_OF A_WITH_A_NUMBER A_TELLING tT tG tH tD tC tL tV tM))
    (C_Hand_outcome_of : Sd.CalM P w K mg base CX0 5 A_Hand "_outcome_of" ["self", "deed"] (Sd.spOutOf A_Hand))
    (C_Boxes_put : Sd.CalM P w K mg base CX0 2 A_Boxes "put" ["self", "place", "number"] (Sd.spBPut A_Boxes))
    (C_Boxes_take : Sd.CalM P w K mg base CX0 2 A_Boxes "take" ["self", "place"] (Sd.spBTake A_Boxes))
    (C_Hand_keep : Sd.CalM P w K mg base CX0 6 A_Hand "_keep" ["self", "number", "deed"] (Sd.spKeepN A_Hand))
    (C_Hand_end : Sd.CalM P w K mg base CX0 1 A_Hand "_end" ["self", "deed", "now"] (Sd.spHEnd2 A_Hand))
    : FnOk P w K mg base CX0 7 f fd ["self", "boxes", "now"] (Sd.spHStep A_Boxes A_Hand) := by
  refine F.ok sc_Hand_step (fun vs H Q E h => ?_) (fun cdv A outer s H vs Q E hr h => ?_)
  · obtain ⟨g, bx, bl, i, m, now, plan, h, d, boxes, rfl, _⟩ := h
    rfl
  · obtain ⟨g, bx, bl, i, m, now, plan, h, d, boxes, rfl, hA, hpd, pre, hB, nbx, nbl, q⟩ := h
    refine ⟨_, (pss_cons (ps_set (i := 3) sc_Hand_step.nd rfl (Or.inl rfl) (pe_ix ix_list (pe_fld (pv 0) rfl) (pe_fld (pv 0) rfl) (fun _ _ => rfl)))
      (C8.pss_cut (ps_if (pt_cmpR op_eq (pe_fld (pv 0) rfl) pe_int (nomark _))
      (pss_cons (ps_fld (pv 0) (pv 2) rfl)
      (pss_cons (ps_fld (pv 0) (pe_lst pa_nil) rfl)
      (pss_one (ps_fld (pv 0) (Sd.pe_mt C_Hand_outcome_of (hr.mono (by decide)) pass0 (pv 0) (pa_cons (pv 3) pa_nil)) rfl))))
      pss_nil)
      (pss_cons (ps_fldaug (pv 0) pe_int in_add)
      (pss_cons (ps_set (i := 4) sc_Hand_step.nd rfl (Or.inl rfl) (pe_op op_mul (pe_ix (ix_kdict) (pe_glob (v := .ref A_THING_OF) rfl T.k_THING_OF.m rfl) (pe_ix ix_tup (pv 3) pe_int (fun _ _ => rfl)) (fun _ _ => rfl)) (pe_fld (pv 0) rfl)))
      (pss_cons (ps_if (pt_cmpR op_notN (pe_fld (pv 0) rfl) pe_non (nomark _))
      (pss_cons (ps_set (i := 5) sc_Hand_step.nd rfl (Or.inl rfl) (pe_ix ix_tup (pe_fld (pv 0) rfl) pe_int (fun _ _ => rfl)))
      (pss_cons (ps_expr (Sd.pe_mt C_Boxes_put (hr.mono (by decide)) pass0 (pv 1) (pa_cons (pe_op op_add (pv 4) (pe_fld (pv 0) rfl)) (pa_cons (pv 5) pa_nil))))
      (pss_one (ps_ret (pe_tup (pa_cons (pe_tup (pa_cons (pe_fld (pv 0) rfl) (pa_cons pe_str (pa_cons (pe_op op_add (pv 4) (pe_fld (pv 0) rfl)) (pa_cons (pv 5) pa_nil))))) (pa_cons (Sd.pe_mt C_Hand_end (hr.mono (by decide)) pass0 (pv 0) (pa_cons (pv 3) (pa_cons (pv 2) pa_nil))) pa_nil)))))))
      pss_nil)
      (pss_cons (ps_set (i := 6) sc_Hand_step.nd rfl (Or.inl rfl) (pe_op op_add (pv 4) (pe_callB call_len_seq (by rfl) T.len (by decide +kernel) (pa_cons (pe_fld (pv 0) rfl) pa_nil))))
      (pss_cons (ps_set (i := 5) sc_Hand_step.nd rfl (Or.inl rfl) (Sd.pe_mt C_Boxes_take (hr.mono (by decide)) pass0 (pv 1) (pa_cons (pv 6) pa_nil)))
      (pss_cons (ps_expr (Sd.pe_mt C_Hand_keep (hr.mono (by decide)) pass0 (pv 0) (pa_cons (pv 5) (pa_cons (pv 3) pa_nil))))
      (pss_cons (ps_set (i := 7) sc_Hand_step.nd rfl (Or.inl rfl) (pe_tup (pa_cons (pe_fld (pv 0) rfl) (pa_cons pe_str (pa_cons (pv 6) (pa_cons (pv 5) pa_nil))))))
      (pss_cons (ps_if (PW.pt (pw_or (pt_cmpR op_isN (pe_fld (pv 0) rfl) pe_non (nomark _)) (pw_or1 (pt_cmpR op_notN (pe_ix ix_tup (pe_fld (pv 0) rfl) pe_int (fun _ _ => rfl)) pe_non (nomark _)))))
      (pss_one (ps_ret (pe_tup (pa_cons (pv 7) (pa_cons pe_non pa_nil)))))
      pss_nil)
      (pss_one (ps_ret (pe_tup (pa_cons (pv 7) (pa_cons (Sd.pe_mt C_Hand_end (hr.mono (by decide)) pass0 (pv 0) (pa_cons (pv 3) (pa_cons (pv 2) pa_nil))) pa_nil))))))))))))))), ?_⟩
    obtain ⟨dx, ov, hob, hov⟩ := id hA.ob
    obtain ⟨ps, hpl, hP⟩ := id hA.pl
    obtain ⟨dp, hdp, hd⟩ := Sd.Paired.get hP hpd
    have tuA : ∀ {H' : Hp}, Sd.Off g.list H H' → Sd.Tu H H' := fun o => Sd.Tu.off o hA.noTup
    refine ⟨_, rfl, g.hp, A_Hand, dx, _, _, rfl, hob, T.cl_Hand, T.n_Hand__plan, rfl, _, rfl, g.hp, A_Hand, dx, _, _, rfl, hob, T.cl_Hand, T.n_Hand__ended, rfl, g.pl, _, _, _, rfl, rfl, SqL.of hpl, atI_nat (by rw [List.getElem?_map, hdp]; rfl), ?_⟩
    obtain ⟨se1, se2, se3, se4, se5⟩ := Sd.start_eq m i now d h
    -- its first step
    refine ⟨fun σ' H' => σ' = [some (.ref g.hp), some (.ref bx), some (.int now), some (.ref dp), none, none, none, none] ∧ ∃ g1, Sd.HandAt A_Hand H' g1 i m plan (h.start m i d now) ∧ Sd.Grow H g g1 ∧ Sd.Off g.list H H', ?_, ?_⟩
    · refine ⟨_, rfl, g.hp, A_Hand, dx, _, _, rfl, hob, T.cl_Hand, T.n_Hand_steps, rfl, rfl, _, rfl, ?_⟩
      have eZ : decide (V.int ((h.steps : Nat) : Int) = V.int 0) = decide (h.steps = 0) := by
        refine decide_eq_decide.mpr ⟨fun z => ?_, fun z => by rw [z]; rfl⟩
        injection z with z
        omega
      rw [eZ]
      by_cases e0 : h.steps = 0
      · have eS : h.start m i d now = { h with beg := now, readings := [], out := Sd.outOf m i d { h with readings := [] } } := by
          unfold Sd.HandM.start
          exact if_pos e0
        rw [decide_eq_true e0]
        refine ⟨_, rfl, _, rfl, g.hp, A_Hand, dx, _, rfl, hob, T.cl_Hand, T.n_Hand__begin, (by show 11 < 1000; decide), ?_⟩
        have A1 := hA.store (h' := { h with beg := now }) rfl rfl rfl hov hob
        have o1 : Sd.Off g.list H (upd H g.hp (.ins A_Hand dx (Sd.hfs (.int i) (.ref g.pl) (.int m) (.int h.ended) (.int h.ones) (.ref g.tk) (.int now) ov (.ref g.rd) (.ref g.rs) (.int h.steps)))) := Sd.Off.upd List.mem_cons_self
        have hob1 : upd H g.hp (.ins A_Hand dx (Sd.hfs (.int i) (.ref g.pl) (.int m) (.int h.ended) (.int h.ones) (.ref g.tk) (.int now) ov (.ref g.rd) (.ref g.rs) (.int h.steps))) g.hp = some (.ins A_Hand dx (Sd.hfs (.int i) (.ref g.pl) (.int m) (.int h.ended) (.int h.ones) (.ref g.tk) (.int now) ov (.ref g.rd) (.ref g.rs) (.int h.steps))) := upd_same
        generalize hX : upd H g.hp _ = H1
        have hX' : upd H g.hp (.ins A_Hand dx (Sd.hfs (.int i) (.ref g.pl) (.int m) (.int h.ended) (.int h.ones) (.ref g.tk) (.int now) ov (.ref g.rd) (.ref g.rs) (.int h.steps))) = H1 := by
          rw [← hX]
          rfl
        have A1' : Sd.HandAt A_Hand H1 g i m plan { h with beg := now } := by rw [← hX']; exact A1
        rw [hX'] at o1 hob1
        clear A1 hX hX'
        have hov1 := hov.tu (tuA o1)
        refine ⟨(by show 0 ≤ sizeLine; decide), fun r hr => ?_⟩
        have hr0 : H r = none := by
          cases z : H r with
          | none => rfl
          | some o =>
            by_cases e : r = g.hp
            · rw [e, hob1] at hr; cases hr
            · exfalso
              by_cases em : r ∈ g.list
              · obtain ⟨o', ho'⟩ := A1'.tracked r em
                rw [hr] at ho'; cases ho'
              · rw [o1 _ _ em z] at hr; cases hr
        have hobr := (Sd.Same.new (o := .lst []) hr) _ _ hob1
        refine ⟨_, rfl, g.hp, A_Hand, dx, _, rfl, hobr, T.cl_Hand, T.n_Hand__readings, (by show 11 < 1000; decide), ?_⟩
        have A2 := A1'.newrs (h' := { h with beg := now, readings := [] }) hr rfl rfl rfl hov1 hob1
        have hob2 : upd (upd H1 r (.lst [])) g.hp (.ins A_Hand dx (Sd.hfs (.int i) (.ref g.pl) (.int m) (.int h.ended) (.int h.ones) (.ref g.tk) (.int now) ov (.ref g.rd) (.ref r) (.int h.steps))) g.hp = some (.ins A_Hand dx (Sd.hfs (.int i) (.ref g.pl) (.int m) (.int h.ended) (.int h.ones) (.ref g.tk) (.int now) ov (.ref g.rd) (.ref r) (.int h.steps))) := upd_same
        have o2 : Sd.Off g.list H (upd (upd H1 r (.lst [])) g.hp (.ins A_Hand dx (Sd.hfs (.int i) (.ref g.pl) (.int m) (.int h.ended) (.int h.ones) (.ref g.tk) (.int now) ov (.ref g.rd) (.ref r) (.int h.steps)))) := (o1.trans (Sd.Off.of_same (Sd.Same.new hr))).trans (Sd.Off.upd List.mem_cons_self)
        generalize hX : upd (upd H1 r _) g.hp _ = H2
        have hX' : upd (upd H1 r (.lst [])) g.hp (.ins A_Hand dx (Sd.hfs (.int i) (.ref g.pl) (.int m) (.int h.ended) (.int h.ones) (.ref g.tk) (.int now) ov (.ref g.rd) (.ref r) (.int h.steps))) = H2 := by
          rw [← hX]
          rfl
        have A2' : Sd.HandAt A_Hand H2 ⟨g.hp, g.tk, g.rd, r, g.pl, []⟩ i m plan { h with beg := now, readings := [] } := by rw [← hX']; exact A2
        rw [hX'] at o2 hob2
        clear A2 hX hX'
        have hd2 := tuA o2 _ _ hd
        refine ⟨_, rfl, g.hp, dx, _, rfl, hob2, rfl, _, rfl, ⟨g.hp, g.tk, g.rd, r, g.pl, []⟩, dp, i, m, plan, { h with beg := now, readings := [] }, d, rfl, A2', hd2, ⟨pre.hi, pre.m4, pre.ok, pre.took, by simp, by simp⟩, fun u H3 s3 hu => ?_⟩
        have hob3 := s3 _ _ hob2
        refine ⟨_, rfl, g.hp, A_Hand, dx, _, rfl, hob3, T.cl_Hand, T.n_Hand__outcome, (by show 11 < 1000; decide), ?_⟩
        have A4 := (A2'.same s3).store (h' := { h with beg := now, readings := [], out := Sd.outOf m i d { h with readings := [] } }) rfl rfl rfl (ov := u) hu hob3
        refine ⟨rfl, ⟨g.hp, g.tk, g.rd, r, g.pl, []⟩, ?_, ⟨rfl, fun x hx => ?_⟩, (o2.trans (Sd.Off.of_same s3)).trans (Sd.Off.upd List.mem_cons_self)⟩
        · rw [eS]
          exact A4
        · simp only [Sd.HG.list, List.mem_cons, List.not_mem_nil, or_false] at hx ⊢
          rcases hx with rfl | rfl | rfl | rfl | rfl
          · exact .inl (.inl rfl)
          · exact .inl (.inr (.inl rfl))
          · exact .inl (.inr (.inr (.inl rfl)))
          · exact .inr hr0
          · exact .inl (.inr (.inr (.inr (.inr (.inl rfl)))))
      · have eS : h.start m i d now = h := by
          unfold Sd.HandM.start
          exact if_neg e0
        rw [decide_eq_false e0]
        refine ⟨rfl, g, ?_, ⟨rfl, fun x hx => .inl hx⟩, Sd.Off.refl _ _⟩
        rw [eS]
        exact hA
    rintro σ1 H1 ⟨rfl, g1, A1, ⟨gh1, gr1⟩, o1⟩
    obtain ⟨dx1, ov1, hob1, hov1⟩ := id A1.ob
    rw [gh1] at hob1
    -- one step more
    refine ⟨_, rfl, g.hp, A_Hand, dx1, _, _, rfl, hob1, T.cl_Hand, T.n_Hand_steps, rfl, _, _, rfl, rfl, _, _, hob1, (by show 11 < 1000; decide), ?_⟩
    have A2 := A1.store (h' := h.first m i d now) rfl rfl rfl hov1 (by rw [gh1]; exact hob1)
    rw [gh1] at A2
    have o2 : Sd.Off g.list H (upd H1 g.hp (.ins A_Hand dx1 (Sd.hfs (.int i) (.ref g1.pl) (.int m) (.int (h.first m i d now).ended) (.int (h.first m i d now).ones) (.ref g1.tk) (.int (h.first m i d now).beg) ov1 (.ref g1.rd) (.ref g1.rs) (.int (h.first m i d now).steps)))) := o1.trans (Sd.Off.upd List.mem_cons_self)
    generalize hX : upd H1 g.hp _ = H2
    have hX' : upd H1 g.hp (.ins A_Hand dx1 (Sd.hfs (.int i) (.ref g1.pl) (.int m) (.int (h.first m i d now).ended) (.int (h.first m i d now).ones) (.ref g1.tk) (.int (h.first m i d now).beg) ov1 (.ref g1.rd) (.ref g1.rs) (.int (h.first m i d now).steps))) = H2 := by
      rw [← hX]
      congr 3
      rw [se5]
      rfl
    have A2' : Sd.HandAt A_Hand H2 g1 i m plan (h.first m i d now) := by rw [← hX']; exact A2
    rw [hX'] at o2
    clear A2 hX hX'
    have gr2 : Sd.Grow H g g1 := ⟨gh1, gr1⟩
    obtain ⟨dx2, ov2, hob2, hov2⟩ := id A2'.ob
    rw [gh1] at hob2
    have hd2 := tuA o2 _ _ hd
    have hB2 : Sd.BxAt A_Boxes H2 bx bl boxes := by
      obtain ⟨⟨dxb, hbx⟩, hbl⟩ := hB
      exact ⟨⟨dxb, o2 _ _ nbx hbx⟩, o2 _ _ nbl hbl⟩
    have f1 : (h.first m i d now).took = h.took := se1
    have f2 : (h.first m i d now).reading = h.reading := se2
    have frd : ∀ r ∈ (h.first m i d now).readings, Sd.RdOk m d.thing r := fun r hr => by
      have hr' : r ∈ (h.start m i d now).readings := hr
      by_cases e0 : h.steps = 0
      · have eS : (h.start m i d now).readings = [] := by
          unfold Sd.HandM.start
          rw [if_pos e0]
        rw [eS] at hr'
        cases hr'
      · have eS : h.start m i d now = h := by
          unfold Sd.HandM.start
          exact if_neg e0
        rw [eS] at hr'
        exact pre.rds e0 r hr'
    have flen : (h.first m i d now).readings.length ≤ h.readings.length := by
      show (h.start m i d now).readings.length ≤ _
      unfold Sd.HandM.start
      split
      · exact Nat.zero_le _
      · exact Nat.le_refl _
    have fout : ∀ o, (h.first m i d now).out = some o → o.num.isSome = true ∧ d.puts = true := fun o ho => by
      have ho' : (h.start m i d now).out = some o := ho
      by_cases e0 : h.steps = 0
      · have eS : (h.start m i d now).out = Sd.outOf m i d { h with readings := [] } := by
          unfold Sd.HandM.start
          rw [if_pos e0]
        rw [eS] at ho'
        exact Sd.out_nil ho'
      · have eS : h.start m i d now = h := by
          unfold Sd.HandM.start
          exact if_neg e0
        rw [eS] at ho'
        exact pre.out e0 o ho'
    have hstep : h.step m i d boxes now = (h.first m i d now).act m i d boxes now := rfl
    rw [hstep] at q
    generalize h.first m i d now = h1 at A2' f1 f2 frd flen fout q hob2 hov2
    have dth := d.thing_le
    have eTM : ((d.thing : Nat) : Int) * ((m : Nat) : Int) = ((d.thing * m : Nat) : Int) := (Int.natCast_mul _ _).symm
    have hi := pre.hi
    have hbl5 := pre.bl
    have hsz : ∀ j, j < m → d.thing * m + j < boxes.length := fun j hj => by
      rw [hbl5]
      have : d.thing * m ≤ 4 * m := Nat.mul_le_mul_right m dth
      omega
    have g1x : ∀ {x : Addr} {o : HO}, H x = some o → x ∉ g.list → x ∉ g1.list := fun e n mm => by
      rcases gr1 _ mm with z | z
      · exact n z
      · rw [z] at e; cases e
    obtain ⟨⟨dxb0, hbx0⟩, hbl0⟩ := id hB
    refine ⟨_, rfl, dp, _, _, _, rfl, rfl, SqT.of hd2, d.at0, A_THING_OF, _, _, rfl, rfl, T.k_THING_OF.get d.kv, _, rfl, g.hp, A_Hand, dx2, _, _, rfl, hob2, T.cl_Hand, T.n_Hand__many, rfl, _, _, rfl, rfl, .inl ⟨by omega, by omega⟩, ?_⟩
    dsimp only
    rw [eTM]
    refine ⟨_, rfl, g.hp, A_Hand, dx2, _, _, rfl, hob2, T.cl_Hand, T.n_Hand__outcome, rfl, rfl, _, rfl, ?_⟩
    cases ho : h1.out with
    | some o =>
      rw [ho] at hov2
      obtain ⟨op, av, mv, rfl, hop, hav, hmv⟩ := hov2
      obtain ⟨hns, hpu⟩ := fout o ho
      obtain ⟨n, hn⟩ := Option.isSome_iff_exists.mp hns
      rw [Sd.act_put ho, hn] at q
      dsimp only [Option.getD_some] at q
      refine ⟨_, rfl, g.hp, A_Hand, dx2, _, _, rfl, hob2, T.cl_Hand, T.n_Hand__outcome, rfl, op, _, _, _, rfl, rfl, SqT.of hop, atI_nat (j := 0) rfl, ?_⟩
      rw [hn]
      obtain ⟨⟨dxb, hbx2⟩, hbl2⟩ := id hB2
      refine ⟨_, rfl, bx, dxb, _, rfl, hbx2, rfl, _, rfl, _, rfl, g.hp, A_Hand, dx2, _, _, rfl, hob2, T.cl_Hand, T.n_Hand__hand, rfl, _, _, rfl, rfl, _, rfl, bx, bl, boxes, d.thing * m + i, n, rfl, hB2, hsz i hi, ?_⟩
      have offb : Sd.Off [bl] H2 (upd H2 bl (.lst ((boxes.set (d.thing * m + i) n).map V.int))) := Sd.Off.upd (List.mem_singleton.mpr rfl)
      have tub : Sd.Tu H2 (upd H2 bl (.lst ((boxes.set (d.thing * m + i) n).map V.int))) := Sd.Tu.upd fun xs e => by
        rw [hbl2] at e
        cases e
      have nb1 : bl ∉ g1.list := g1x hbl0 nbl
      have A3 := A2'.off offb (fun x hx mm => nb1 (by rw [← List.mem_singleton.mp mm]; exact hx)) tub
      have hB3 : Sd.BxAt A_Boxes (upd H2 bl (.lst ((boxes.set (d.thing * m + i) n).map V.int))) bx bl (boxes.set (d.thing * m + i) n) :=
        ⟨⟨dxb, by rw [upd_ne (ne_of hbx2 hbl2 (by intro z; cases z))]; exact hbx2⟩, upd_same⟩
      have o3 : Sd.Off (bl :: g.list) H (upd H2 bl (.lst ((boxes.set (d.thing * m + i) n).map V.int))) := fun x o nx e => by
        rw [upd_ne (fun z => nx (by rw [z]; exact List.mem_cons_self))]
        exact o2 x o (fun z => nx (List.mem_cons_of_mem _ z)) e
      have hd3 := tub _ _ hd2
      have hov3 := tub _ _ hop
      generalize upd H2 bl (.lst ((boxes.set (d.thing * m + i) n).map V.int)) = H3 at A3 hB3 o3 hd3 tub ⊢
      obtain ⟨dx3, ov3, hob3, hov3'⟩ := id A3.ob
      rw [gh1] at hob3
      refine ⟨_, rfl, g.hp, A_Hand, dx3, _, _, rfl, hob3, T.cl_Hand, T.n_Hand__hand, rfl, _, rfl, _, rfl, g.hp, A_Hand, dx3, _, _, rfl, hob3, T.cl_Hand, T.n_Hand__hand, rfl, _, _, rfl, rfl, _, rfl, (by show 4 ≤ sizeLine; decide), fun tt htt => ?_⟩
      have s4 := Sd.Same.new (o := .tup [.int i, .str "put", .int (((d.thing * m : Nat) : Int) + (i : Nat)), .int n]) htt
      have c4 : upd H3 tt (.tup [.int i, .str "put", .int (((d.thing * m : Nat) : Int) + (i : Nat)), .int n]) tt = some (.tup [.int i, .str "put", .int ((d.thing * m + i : Nat) : Int), .int n]) := upd_same
      generalize hX : upd H3 tt _ = H4
      have hX' : upd H3 tt (.tup [.int i, .str "put", .int (((d.thing * m : Nat) : Int) + (i : Nat)), .int n]) = H4 := hX
      rw [hX'] at s4 c4
      clear hX hX'
      have A4 := A3.same s4
      have hob4 := s4 _ _ hob3
      refine ⟨_, rfl, g.hp, dx3, _, rfl, hob4, rfl, _, rfl, _, rfl, g1, dp, i, m, now, plan, h1, d, o, by rw [gh1]; rfl, A4, s4 _ _ hd3, ho, by rw [f1]; exact pre.took, fun z => ?_, fun te H5 hE A5 o5 => ?_⟩
      · rw [z] at hpu
        cases hpu
      have tu5 : Sd.Tu H4 H5 := Sd.Tu.off o5 A4.noTup
      refine ⟨(by show 2 ≤ sizeLine; decide), fun z hz => ?_⟩
      have s6 := Sd.Same.new (o := .tup [.ref tt, .ref te]) hz
      have nb1x : bx ∉ g1.list := g1x hbx0 nbx
      refine q z (.ref tt) (.ref te) g1 _ upd_same ⟨tt, rfl, s6 _ _ (tu5 _ _ c4)⟩ (hE.tu (Sd.Tu.same s6)) (A5.same s6) ?_ gr2 ?_
      · obtain ⟨⟨dxb3, h1'⟩, h2'⟩ := hB3
        exact ⟨⟨dxb3, s6 _ _ (o5 _ _ nb1x (s4 _ _ h1'))⟩, s6 _ _ (o5 _ _ nb1 (s4 _ _ h2'))⟩
      · intro x o' nx e
        have nx1 : x ∉ g1.list := g1x e (fun z => nx (List.mem_cons_of_mem _ z))
        exact s6 _ _ (o5 _ _ nx1 (s4 _ _ (o3 _ _ nx e)))
    | none =>
      rw [ho] at hov2
      cases (show ov2 = .non from hov2)
      have hrl : h1.reading.length < m := by rw [f2]; exact pre.rdl
      obtain ⟨⟨dxb, hbx2⟩, hbl2⟩ := id hB2
      refine ⟨_, rfl, _, rfl, g.hp, A_Hand, dx2, _, _, rfl, hob2, T.cl_Hand, T.n_Hand__reading, rfl, g1.rd, _, rfl, .inl (SqL.of A2'.rd), _, _, rfl, rfl, ?_⟩
      dsimp only
      have ePl : ((d.thing * m : Nat) : Int) + (((h1.reading.map V.int).length : Nat) : Int) = ((h1.place m d : Nat) : Int) := by
        rw [List.length_map]
        rfl
      rw [ePl]
      refine ⟨_, rfl, bx, dxb, _, rfl, hbx2, rfl, _, rfl, bx, bl, boxes, h1.place m d, rfl, hB2, hsz _ hrl, ?_⟩
      have pre1 : Sd.RdPre m d h1 i := ⟨hi, pre.m4, pre.ok, by rw [f1]; exact pre.took, frd, by have := pre.len; omega⟩
      have hbn : Sd.BoxOk m d.thing (boxes.getD (h1.place m d) 0) := by
        have := pre.bx h1.reading.length hrl
        exact this
      refine ⟨_, rfl, g.hp, dx2, _, rfl, hob2, rfl, _, rfl, _, rfl, g1, dp, i, m, plan, h1, d, boxes.getD (h1.place m d) 0, by rw [gh1]; rfl, A2', hd2, pre1, ?_, hrl, fun x hx => pre.rd x (by rw [← f2]; exact hx), hbn, fun g3 H3 A3 gr3 o3 => ?_⟩
      · have := pre.len
        omega
      have tu3 : Sd.Tu H2 H3 := Sd.Tu.off o3 A2'.noTup
      obtain ⟨gh3, gr3'⟩ := gr3
      rw [gh1] at gh3
      obtain ⟨dx3, ov3, hob3, hov3⟩ := id A3.ob
      rw [gh3] at hob3
      have hd3 := tu3 _ _ hd2
      have f2H : ∀ x, x ∈ g3.list → x ∈ g.list ∨ H x = none := fun x hx => by
        rcases gr3' x hx with z | z
        · exact gr1 x z
        · by_cases em : x ∈ g.list
          · exact .inl em
          · refine .inr ?_
            cases y : H x with
            | none => rfl
            | some o => rw [o2 _ _ em y] at z; cases z
      have gr4 : Sd.Grow H g g3 := ⟨gh3, f2H⟩
      have g3x : ∀ {x : Addr} {o : HO}, H x = some o → x ∉ g.list → x ∉ g3.list := fun e n mm => by
        rcases f2H _ mm with z | z
        · exact n z
        · rw [z] at e; cases e
      have nb1 : bl ∉ g1.list := g1x hbl0 nbl
      have nb1x : bx ∉ g1.list := g1x hbx0 nbx
      have nb3 : bl ∉ g3.list := g3x hbl0 nbl
      have nb3x : bx ∉ g3.list := g3x hbx0 nbx
      have o3' : Sd.Off (bl :: g.list) H H3 := fun x o nx e => o3 _ _ (g1x e (fun z => nx (List.mem_cons_of_mem _ z))) (o2 _ _ (fun z => nx (List.mem_cons_of_mem _ z)) e)
      have hB3 : Sd.BxAt A_Boxes H3 bx bl boxes := ⟨⟨dxb, o3 _ _ nb1x hbx2⟩, o3 _ _ nb1 hbl2⟩
      have k3 := Sd.keep_eq m i d (boxes.getD (h1.place m d) 0) h1
      refine ⟨_, rfl, g.hp, A_Hand, dx3, _, _, rfl, hob3, T.cl_Hand, T.n_Hand__hand, rfl, _, rfl, _, rfl, (by show 4 ≤ sizeLine; decide), fun tt htt => ?_⟩
      have s4 := Sd.Same.new (o := .tup [.int i, .str "take", .int (h1.place m d), .int (boxes.getD (h1.place m d) 0)]) htt
      have c4 : upd H3 tt (.tup [.int i, .str "take", .int (h1.place m d), .int (boxes.getD (h1.place m d) 0)]) tt = some (.tup [.int i, .str "take", .int (h1.place m d), .int (boxes.getD (h1.place m d) 0)]) := upd_same
      generalize upd H3 tt (.tup [.int i, .str "take", .int (h1.place m d), .int (boxes.getD (h1.place m d) 0)]) = H4 at s4 c4 ⊢
      have A4 := A3.same s4
      have hob4 := s4 _ _ hob3
      have hov4 := hov3.tu (Sd.Tu.same s4)
      have hB4 : Sd.BxAt A_Boxes H4 bx bl boxes := by
        obtain ⟨⟨dxb3, x1⟩, x2⟩ := hB3
        exact ⟨⟨dxb3, s4 _ _ x1⟩, s4 _ _ x2⟩
      have o4 : Sd.Off (bl :: g.list) H H4 := o3'.trans (Sd.Off.of_same s4)
      have fin0 : ((h1.keep m i d (boxes.getD (h1.place m d) 0)).out = none ∨ ∃ o, (h1.keep m i d (boxes.getD (h1.place m d) 0)).out = some o ∧ o.num.isSome = true) → ∀ z, H4 z = none → Q (.ref z) (upd H4 z (.tup [.ref tt, .non])) := fun c z hz => by
        rw [Sd.act_take0 ho rfl c] at q
        have s5 := Sd.Same.new (o := .tup [.ref tt, .non]) hz
        refine q z (.ref tt) .non g3 _ upd_same ⟨tt, rfl, s5 _ _ c4⟩ rfl (A4.same s5) ?_ gr4 (o4.trans (Sd.Off.of_same s5))
        obtain ⟨⟨dxb3, x1⟩, x2⟩ := hB4
        exact ⟨⟨dxb3, s5 _ _ x1⟩, s5 _ _ x2⟩
      refine ⟨_, rfl, g.hp, A_Hand, dx3, _, _, rfl, hob4, T.cl_Hand, T.n_Hand__outcome, rfl, rfl, _, rfl, ?_⟩
      cases hk : (h1.keep m i d (boxes.getD (h1.place m d) 0)).out with
      | none =>
        rw [hk] at hov4
        cases (show ov3 = .non from hov4)
        exact ⟨_, rfl, (by show 2 ≤ sizeLine; decide), fun z hz => fin0 (.inl hk) z hz⟩
      | some o =>
        rw [hk] at hov4
        obtain ⟨op, av, mv, rfl, hop, hav, hmv⟩ := hov4
        refine ⟨_, rfl, g.hp, A_Hand, dx3, _, _, rfl, hob4, T.cl_Hand, T.n_Hand__outcome, rfl, op, _, _, _, rfl, rfl, SqT.of hop, atI_nat (j := 0) rfl, rfl, _, rfl, ?_⟩
        cases hn : o.num with
        | some n => exact ⟨_, rfl, (by show 2 ≤ sizeLine; decide), fun z hz => fin0 (.inr ⟨o, hk, by rw [hn]; rfl⟩) z hz⟩
        | none =>
          rw [Sd.act_take1 ho rfl hk hn] at q
          obtain ⟨kl, ko⟩ := Sd.keep_out ho hk
          refine ⟨_, rfl, _, rfl, g.hp, dx3, _, rfl, hob4, rfl, _, rfl, _, rfl, g3, dp, i, m, now, plan, _, d, o, by rw [gh3]; rfl, A4, s4 _ _ hd3, hk, by rw [k3.1, f1]; exact pre.took, fun z => ?_, fun te H5 hE A5 o5 => ?_⟩
          · subst z
            refine (Sd.take_mark ?_ ko).2
            intro r hr
            rcases List.mem_append.mp hr with hr | hr
            · exact (frd r hr).1
            · rw [List.mem_singleton.mp hr]
              exact kl
          have tu5 : Sd.Tu H4 H5 := Sd.Tu.off o5 A4.noTup
          refine ⟨(by show 2 ≤ sizeLine; decide), fun z hz => ?_⟩
          have s6 := Sd.Same.new (o := .tup [.ref tt, .ref te]) hz
          refine q z (.ref tt) (.ref te) g3 _ upd_same ⟨tt, rfl, s6 _ _ (tu5 _ _ c4)⟩ (hE.tu (Sd.Tu.same s6)) (A5.same s6) ?_ gr4 ?_
          · obtain ⟨⟨dxb3, x1⟩, x2⟩ := hB4
            exact ⟨⟨dxb3, s6 _ _ (o5 _ _ nb3x x1)⟩, s6 _ _ (o5 _ _ nb3 x2)⟩
          · intro x o' nx e
            exact s6 _ _ (o5 _ _ (g3x e (fun z => nx (List.mem_cons_of_mem _ z))) (o4 _ _ nx e))
end

section
variable {P : Program} {w : World} {K : PySem.W.Frag} {mg : Str → Option Value} {base : Heap} {A_Boxes A_Hand A_Hall A_HandsError A_NoNumber A_NoBox A_NoHand A_NoDeed A_THING_OF A_WITH_A_NUMBER A_TELLING : Addr} {tT tG tH tD tC tL tV tM : Tok}
abbrev N_Hall_need : List Str := ["self", "hand"]
theorem sc_Hall_need : FnScope N_Hall_need ["self", "hand"] (defScope s_Hall_need) := ⟨rfl, rfl, rfl, by decide +kernel, rfl, by decide +kernel, by decide +kernel⟩
theorem ok_Hall_need {f : Addr} {fd : FuncData} (F : Fun K "_need" "Hall._need" s_Hall_need f fd) (T : (Txt K mg w A_Boxes A_Hand A_Hall A_HandsError A_NoNumber A_NoBox A_NoHand A_NoDeed A_THING_OF A_WITH_A_NUMBER A_TELLING tT tG tH tD tC tL tV tM))
    : FnOk P w K mg base (L2.CX P w) 1 f fd ["self", "hand"] (Sd.spNeedHE A_Boxes A_Hand A_Hall A_NoHand) := by
  refine F.okX sc_Hall_need (fun vs H Q E h => ?_) (fun cdv A outer s H vs Q E hr h => ?_)
  · obtain ⟨g, s, i, rfl, _⟩ := h
    rfl
  · obtain ⟨g, s, i, rfl, hA, hi⟩ := h
    refine ⟨_, (pss_one (ps_if (PW.pt (pw_or (pt_cmpR op_lt (pv 1) pe_int (nomark _)) (pw_or1 (pt_cmpR op_ge (pv 1) (pe_callB call_len_seq (by rfl) T.len (by decide +kernel) (pa_cons (pe_fld (pv 0) rfl) pa_nil)) (nomark _)))))
      (pss_one (ps_raise rfl (takes_of rfl rfl rfl rfl) (pmk_own PySem.F.excBase_ValueError T.r_NoHand.ex T.m_NoHand T.r_NoHand.kp (raises_own T.r_NoHand.b T.r_NoHand.t) rfl)))
      pss_nil)), ?_⟩
    obtain ⟨dx, hob⟩ := hA.ob
    have lh := hA.len
    refine ⟨_, rfl, _, _, rfl, rfl, _, rfl, ?_⟩
    by_cases c1 : i < 0
    · refine ite2 (fun _ => ?_) (fun c => absurd (decide_eq_true c1) c)
      rcases hi with ⟨h0, _⟩ | ⟨_, e⟩
      · omega
      · exact e
    refine ite2 (fun c => absurd (of_decide_eq_true c) c1) (fun _ => ?_)
    refine ⟨_, rfl, _, rfl, g.ha, A_Hall, dx, _, _, rfl, hob, T.cl_Hall, T.n_Hall__hands, rfl, g.hl, _, rfl, .inl (SqL.of hA.hl), _, _, rfl, rfl, _, rfl, ?_⟩
    rw [List.length_map, lh]
    by_cases c2 : (s.many : Int) ≤ i
    · refine ite2 (fun _ => ?_) (fun c => absurd (decide_eq_true c2) c)
      rcases hi with ⟨_, h0, _⟩ | ⟨_, e⟩
      · omega
      · exact e
    refine ite2 (fun c => absurd (of_decide_eq_true c) c2) (fun _ => ?_)
    rcases hi with ⟨_, _, q⟩ | ⟨n, _⟩
    · exact q
    · rcases n with n | n
      · exact absurd n c1
      · exact absurd n c2
abbrev N_Hall_step : List Str := ["self", "hand", "mover", "touch", "ended"]
theorem sc_Hall_step : FnScope N_Hall_step ["self", "hand"] (defScope s_Hall_step) := ⟨rfl, rfl, rfl, by decide +kernel, rfl, by decide +kernel, by decide +kernel⟩
theorem ok_Hall_step {f : Addr} {fd : FuncData} (F : Fun K "step" "Hall.step" s_Hall_step f fd) (T : (Txt K mg w A_Boxes A_Hand A_Hall A_HandsError A_NoNumber A_NoBox A_NoHand A_NoDeed A_THING_OF A_WITH_A_NUMBER A_TELLING tT tG tH tD tC tL tV tM))
    (C_Hall_need : Sd.CalM P w K mg base (L2.CX P w) 1 A_Hall "_need" ["self", "hand"] (Sd.spNeedHE A_Boxes A_Hand A_Hall A_NoHand))
    (C_Hand_is_through : Sd.CalM P w K mg base CX0 1 A_Hand "is_through" ["self"] (Sd.spThrough A_Hand))
    (C_Hand_step : Sd.CalM P w K mg base CX0 7 A_Hand "step" ["self", "boxes", "now"] (Sd.spHStep A_Boxes A_Hand))
    : FnOk P w K mg base (L2.CX P w) 8 f fd ["self", "hand"] (Sd.spHallStepE A_Boxes A_Hand A_Hall A_NoHand) := by
  refine F.okX sc_Hall_step (fun vs H Q E h => ?_) (fun cdv A outer s H vs Q E hr h => ?_)
  · obtain ⟨g, s, i, rfl, _⟩ := h
    rfl
  · obtain ⟨g, s, z, rfl, hA, hcase⟩ := h
    refine ⟨_, (pss_cons (ps_expr (Sd.pe_mt C_Hall_need (hr.mono (by decide)) (passes_call (takes_of rfl rfl rfl rfl) (fun _ _ _ _ h => h)) (pv 0) (pa_cons (pv 1) pa_nil)))
      (pss_cons (ps_set (i := 2) sc_Hall_step.nd rfl (Or.inl rfl) (pe_ix ix_list (pe_fld (pv 0) rfl) (pv 1) (fun _ _ => rfl)))
      (pss_cons (ps_if (pt_val (Sd.pe_mt0 C_Hand_is_through (hr.mono (by decide)) pass0 (pv 2)))
      (pss_one (ps_ret pe_bl))
      pss_nil)
      (pss_cons (ps_asg (Sd.pe_mt C_Hand_step (hr.mono (by decide)) pass0 (pv 2) (pa_cons (pe_fld (pv 0) rfl) (pa_cons (pe_callB call_len_seq (by rfl) T.len (by decide +kernel) (pa_cons (pe_fld (pv 0) rfl) pa_nil)) pa_nil))) (pg_tup (by rfl) (pgs_cons (pg_name (i := 3) sc_Hall_step.nd rfl (Or.inl rfl)) (pgs_cons (pg_name (i := 4) sc_Hall_step.nd rfl (Or.inl rfl)) pgs_nil))))
      (pss_cons (ps_expr (pe_bm PySem.F.plainAttrs_list PySem.F.slot_list_append PySem.F.type_list_append mt_append (pe_fld (pv 0) rfl) (pa_cons (pv 3) pa_nil)))
      (C8.pss_cut (ps_if (pt_cmpR op_notN (pv 4) pe_non (nomark _))
      (pss_cons (ps_expr (pe_bm PySem.F.plainAttrs_list PySem.F.slot_list_append PySem.F.type_list_append mt_append (pe_fld (pv 0) rfl) (pa_cons (pe_ix ix_tup (pv 4) pe_int (fun _ _ => rfl)) pa_nil)))
      (pss_one (ps_expr (pe_bm PySem.F.plainAttrs_list PySem.F.slot_list_append PySem.F.type_list_append mt_append (pe_fld (pv 0) rfl) (pa_cons (pe_ix ix_tup (pv 4) pe_int (fun _ _ => rfl)) pa_nil)))))
      pss_nil)
      (pss_one (ps_ret pe_bl)))))))), ?_⟩
    obtain ⟨dx, hob⟩ := hA.ob
    rcases hcase with ⟨i, rfl, hi, hok, q⟩ | ⟨bad, e⟩
    case inr => exact ⟨_, rfl, g.ha, dx, _, rfl, hob, rfl, _, rfl, g, s, z, rfl, hA, .inr ⟨bad, e⟩⟩
    have hil : i < g.hs.length := by rw [hA.len]; exact hi
    have hx : g.hs[i]? = some g.hs[i] := List.getElem?_eq_getElem hil
    generalize g.hs[i] = x at hx
    have hX := hA.hand i x hx
    obtain ⟨dx2, ov, hxo, _⟩ := hX.ob
    refine ⟨_, rfl, g.ha, dx, _, rfl, hob, rfl, _, rfl, g, s, i, rfl, hA, .inl ⟨by omega, by omega, ?_⟩⟩
    refine ⟨_, rfl, g.ha, A_Hall, dx, _, _, rfl, hob, T.cl_Hall, T.n_Hall__hands, rfl, _, rfl, g.hl, _, _, _, rfl, rfl, SqL.of hA.hl, atI_nat (by rw [List.getElem?_map, hx]; rfl), ?_⟩
    refine ⟨_, rfl, x.hp, dx2, _, rfl, hxo, rfl, x, i, s.many, s.plan i, s.hand i, rfl, hX, _, rfl, ?_⟩
    by_cases ce : (s.hand i).ended = (s.plan i).length
    · rw [decide_eq_true ce]
      have e1 : s.stepped i = none := by
        unfold Sd.HallM.stepped
        rw [List.getElem?_eq_none (by omega)]
      have e2 : s.step i = s := by
        unfold Sd.HallM.step
        rw [e1]
        rfl
      rw [e1, e2] at q
      exact q g H hA (Sd.HGrow.refl _ _) (Sd.Off.refl _ _)
    · rw [decide_eq_false ce]
      have hlt : (s.hand i).ended < (s.plan i).length := by
        have := hok.le i hi
        omega
      have hd : (s.plan i)[(s.hand i).ended]? = some (s.plan i)[(s.hand i).ended] := List.getElem?_eq_getElem hlt
      generalize (s.plan i)[(s.hand i).ended] = d at hd
      have pre := hok.pre i hi d hd
      have e1 : s.stepped i = some (s.put i ((s.hand i).step s.many i d s.boxes s.touches.length)) := by
        unfold Sd.HallM.stepped
        rw [hd]
        rfl
      have e2 : s.step i = s.put i ((s.hand i).step s.many i d s.boxes s.touches.length) := by
        unfold Sd.HallM.step
        rw [e1]
        rfl
      rw [e1, e2] at q
      obtain ⟨dxb, hbx⟩ := hA.bx
      obtain ⟨v1, r1, p1⟩ := hA.rc
      obtain ⟨v2, r2, p2⟩ := hA.mr
      obtain ⟨v3, r3, p3⟩ := hA.tc
      have l3 := Sd.Paired.len p3
      have nown : ∀ y ∈ g.own, y ∉ x.list := fun y hy m => hA.apart i x hx y m hy
      refine ⟨_, rfl, x.hp, dx2, _, rfl, hxo, rfl, _, rfl, g.ha, A_Hall, dx, _, _, rfl, hob, T.cl_Hall, T.n_Hall__boxes, rfl, _, rfl, g.ha, A_Hall, dx, _, _, rfl, hob, T.cl_Hall, T.n_Hall__touches, rfl, g.tc, _, rfl, .inl (SqL.of r3), ?_⟩
      rw [l3]
      refine ⟨x, g.bx, g.bl, i, s.many, s.touches.length, s.plan i, s.hand i, d, s.boxes, rfl, hX, hd, pre, ⟨⟨dxb, hbx⟩, hA.bl⟩, nown _ (by simp), nown _ (by simp), fun z tv ev x' H1 hz hT hE hX' hB' hgr ho1 => ?_⟩
      generalize (s.hand i).step s.many i d s.boxes s.touches.length = st at q hT hE hX' hB'
      have nd := hA.own.1
      simp only [List.nodup_cons, List.mem_cons, List.not_mem_nil, or_false, not_or, List.nodup_nil, and_true, not_false_eq_true] at nd
      obtain ⟨⟨n1, n2, n3, n4⟩, ⟨n5, n6, n7⟩, ⟨n8, n9⟩, n10⟩ := nd
      have s1 : ∀ {y : Addr} {o : HO}, y ∈ g.own → y ≠ g.bl → H y = some o → H1 y = some o := fun hy n e => ho1 _ _ (fun m => by
        rcases List.mem_cons.mp m with z | m
        · exact n z
        · exact nown _ hy m) e
      have r1' := s1 (by simp) (Ne.symm n2) r1
      have r2' := s1 (by simp) (Ne.symm n3) r2
      have r3' := s1 (by simp) (Ne.symm n4) r3
      have hob1 := s1 (by simp) (ne_of hob hA.bl (by intro z; cases z)) hob
      have tu1 : Sd.Tu H H1 := Sd.Tu.off ho1 fun y hy => by
        rcases List.mem_cons.mp hy with rfl | hy
        · exact hA.own_noTup _ (by simp)
        · exact hX.noTup y hy
      refine ⟨z, _, rfl, SqT.of hz, rfl, _, _, rfl, _, _, rfl, rfl, ?_⟩
      refine ⟨_, rfl, g.ha, A_Hall, dx, _, _, rfl, hob1, T.cl_Hall, T.n_Hall__touches, rfl, .inl ⟨rfl, _, SqL.of r3'⟩, _, rfl, g.tc, _, _, rfl, rfl, r3', by rw [l3]; exact Nat.lt_trans hok.n1 (by decide), ?_⟩
      have o2 : Sd.Off [g.tc, g.rc, g.mr] H1 (upd H1 g.tc (.lst (v3 ++ [tv]))) := Sd.Off.upd (by simp)
      have c2 : upd H1 g.tc (.lst (v3 ++ [tv])) g.tc = some (.lst (v3 ++ [tv])) := upd_same
      have t2 : Sd.Tu H1 (upd H1 g.tc (.lst (v3 ++ [tv]))) := Sd.Tu.upd fun xs e => by rw [r3'] at e; cases e
      have e2' : ∀ y, y ≠ g.tc → upd H1 g.tc (.lst (v3 ++ [tv])) y = H1 y := fun y n => upd_ne n
      generalize upd H1 g.tc (.lst (v3 ++ [tv])) = H2 at o2 c2 t2 e2' ⊢
      have hob2 := (e2' g.ha (ne_of hob1 r3' (by intro z; cases z))).trans hob1
      have r1'' := (e2' g.rc n9).trans r1'
      have r2'' := (e2' g.mr n10).trans r2'
      have pt2 : Paired (Sd.TouchAt H2) (v3 ++ [tv]) (s.put i st).touches := Sd.Paired.app (Sd.Paired.mapM p3 fun y _ z e => e.tu (tu1.trans t2)) (hT.tu t2)
      refine ⟨fun _ H' => Q (.bl true) H', ?_, fun _ _ h => h⟩
      refine ⟨_, rfl, rfl, _, rfl, ?_⟩
      cases he : st.ended with
      | none =>
        rw [he] at hE
        cases (show ev = .non from hE)
        have er : (s.put i st).recs = s.recs := by show s.recs ++ (st.ended.map (·.1)).toList = _; rw [he]; exact List.append_nil _
        have em : (s.put i st).marks = s.marks := by show s.marks ++ (st.ended.map (·.2)).toList = _; rw [he]; exact List.append_nil _
        obtain ⟨B1, B2, B3⟩ := hA.after hx hok.hl hX' hB' hgr ho1 o2 ⟨_, c2, pt2⟩ ⟨_, r1'', by rw [er]; exact Sd.Paired.mapM p1 fun y _ z e => e.tu (tu1.trans t2)⟩ ⟨_, r2'', by rw [em]; exact Sd.Paired.mapM p2 fun y _ z e => e.tu (tu1.trans t2)⟩
        exact q _ H2 B1 B3 B2
      | some rm =>
        obtain ⟨rec, mk⟩ := rm
        rw [he] at hE
        obtain ⟨te, rv, mv, rfl, hte, hrv, hmv⟩ := hE
        have er : (s.put i st).recs = s.recs ++ [rec] := by show s.recs ++ (st.ended.map (·.1)).toList = _; rw [he]; rfl
        have em : (s.put i st).marks = s.marks ++ [mk] := by show s.marks ++ (st.ended.map (·.2)).toList = _; rw [he]; rfl
        have hte2 := t2 _ _ hte
        refine ⟨_, rfl, g.ha, A_Hall, dx, _, _, rfl, hob2, T.cl_Hall, T.n_Hall__records, rfl, .inl ⟨rfl, _, SqL.of r1''⟩, _, rfl, te, _, _, _, rfl, rfl, SqT.of hte2, atI_nat (j := 0) rfl, g.rc, _, _, rfl, rfl, r1'', by rw [Sd.Paired.len p1]; exact Nat.lt_trans hok.n2 (by decide), ?_⟩
        have o3 : Sd.Off [g.tc, g.rc, g.mr] H2 (upd H2 g.rc (.lst (v1 ++ [rv]))) := Sd.Off.upd (by simp)
        have c3 : upd H2 g.rc (.lst (v1 ++ [rv])) g.rc = some (.lst (v1 ++ [rv])) := upd_same
        have t3 : Sd.Tu H2 (upd H2 g.rc (.lst (v1 ++ [rv]))) := Sd.Tu.upd fun xs e => by rw [r1''] at e; cases e
        have e3' : ∀ y, y ≠ g.rc → upd H2 g.rc (.lst (v1 ++ [rv])) y = H2 y := fun y n => upd_ne n
        generalize upd H2 g.rc (.lst (v1 ++ [rv])) = H3 at o3 c3 t3 e3' ⊢
        have hob3 := (e3' g.ha (ne_of hob2 r1'' (by intro z; cases z))).trans hob2
        have r2''' := (e3' g.mr (Ne.symm n8)).trans r2''
        have hte3 := t3 _ _ hte2
        refine ⟨_, rfl, g.ha, A_Hall, dx, _, _, rfl, hob3, T.cl_Hall, T.n_Hall__marks, rfl, .inl ⟨rfl, _, SqL.of r2'''⟩, _, rfl, te, _, _, _, rfl, rfl, SqT.of hte3, atI_nat (j := 1) rfl, g.mr, _, _, rfl, rfl, r2''', by rw [Sd.Paired.len p2]; exact Nat.lt_trans hok.n3 (by decide), ?_⟩
        have o4 : Sd.Off [g.tc, g.rc, g.mr] H3 (upd H3 g.mr (.lst (v2 ++ [mv]))) := Sd.Off.upd (by simp)
        have c4 : upd H3 g.mr (.lst (v2 ++ [mv])) g.mr = some (.lst (v2 ++ [mv])) := upd_same
        have t4 : Sd.Tu H3 (upd H3 g.mr (.lst (v2 ++ [mv]))) := Sd.Tu.upd fun xs e => by rw [r2'''] at e; cases e
        have e4' : ∀ y, y ≠ g.mr → upd H3 g.mr (.lst (v2 ++ [mv])) y = H3 y := fun y n => upd_ne n
        generalize upd H3 g.mr (.lst (v2 ++ [mv])) = H4 at o4 c4 t4 e4' ⊢
        have t24 := t3.trans t4
        have tA := (tu1.trans t2).trans t24
        obtain ⟨B1, B2, B3⟩ := hA.after hx hok.hl hX' hB' hgr ho1 ((o2.trans o3).trans o4) ⟨_, (e4' g.tc (Ne.symm n10)).trans ((e3' g.tc (Ne.symm n9)).trans c2), Sd.Paired.mapM pt2 fun y _ z e => e.tu t24⟩
          ⟨_, (e4' g.rc n8).trans c3, by rw [er]; exact Sd.Paired.app (Sd.Paired.mapM p1 fun y _ z e => e.tu tA) (hrv.tu (t2.trans t24))⟩
          ⟨_, c4, by rw [em]; exact Sd.Paired.app (Sd.Paired.mapM p2 fun y _ z e => e.tu tA) (hmv.tu (t2.trans t24))⟩
        exact q _ H4 B1 B3 B2
abbrev N_Hall_steps_of : List Str := ["self", "hand"]
theorem sc_Hall_steps_of : FnScope N_Hall_steps_of ["self", "hand"] (defScope s_Hall_steps_of) := ⟨rfl, rfl, rfl, by decide +kernel, rfl, by decide +kernel, by decide +kernel⟩
theorem ok_Hall_steps_of {f : Addr} {fd : FuncData} (F : Fun K "steps_of" "Hall.steps_of" s_Hall_steps_of f fd) (T : (Txt K mg w A_Boxes A_Hand A_Hall A_HandsError A_NoNumber A_NoBox A_NoHand A_NoDeed A_THING_OF A_WITH_A_NUMBER A_TELLING tT tG tH tD tC tL tV tM))
    (C_Hall_need : Sd.CalM P w K mg base (L2.CX P w) 1 A_Hall "_need" ["self", "hand"] (Sd.spNeedHE A_Boxes A_Hand A_Hall A_NoHand))
    : FnOk P w K mg base (L2.CX P w) 2 f fd ["self", "hand"] (Sd.spStepsOfE A_Boxes A_Hand A_Hall A_NoHand) := by
  refine F.okX sc_Hall_steps_of (fun vs H Q E h => ?_) (fun cdv A outer s H vs Q E hr h => ?_)
  · obtain ⟨g, s, i, rfl, _⟩ := h
    rfl
  · obtain ⟨g, s, z, rfl, hA, hcase⟩ := h
    refine ⟨_, (pss_cons (ps_expr (Sd.pe_mt C_Hall_need (hr.mono (by decide)) (passes_call (takes_of rfl rfl rfl rfl) (fun _ _ _ _ h => h)) (pv 0) (pa_cons (pv 1) pa_nil)))
      (pss_one (ps_ret (pe_fld (pe_ix ix_list (pe_fld (pv 0) rfl) (pv 1) (fun _ _ => rfl)) rfl)))), ?_⟩
    obtain ⟨dx, hob⟩ := hA.ob
    rcases hcase with ⟨i, rfl, hi, q⟩ | ⟨bad, e⟩
    case inr => exact ⟨_, rfl, g.ha, dx, _, rfl, hob, rfl, _, rfl, g, s, z, rfl, hA, .inr ⟨bad, e⟩⟩
    have hx : g.hs[i]? = some (g.hs[i]'(by rw [hA.len]; exact hi)) := List.getElem?_eq_getElem _
    generalize (g.hs[i]'(by rw [hA.len]; exact hi)) = x at hx
    obtain ⟨dx2, ov, hxo, _⟩ := (hA.hand i x hx).ob
    refine ⟨_, rfl, g.ha, dx, _, rfl, hob, rfl, _, rfl, g, s, i, rfl, hA, .inl ⟨by omega, by omega, ?_⟩⟩
    exact ⟨_, rfl, g.ha, A_Hall, dx, _, _, rfl, hob, T.cl_Hall, T.n_Hall__hands, rfl, _, rfl, g.hl, _, _, _, rfl, rfl, SqL.of hA.hl, atI_nat (by rw [List.getElem?_map, hx]; rfl), x.hp, A_Hand, dx2, _, _, rfl, hxo, T.cl_Hand, T.n_Hand_steps, rfl, q⟩
abbrev N_Hall_weave : List Str := ["self", "row", "hand", "done"]
theorem sc_Hall_weave : FnScope N_Hall_weave ["self", "row"] (defScope s_Hall_weave) := ⟨rfl, rfl, rfl, by decide +kernel, rfl, by decide +kernel, by decide +kernel⟩
theorem ok_Hall_weave {f : Addr} {fd : FuncData} (F : Fun K "weave" "Hall.weave" s_Hall_weave f fd) (T : (Txt K mg w A_Boxes A_Hand A_Hall A_HandsError A_NoNumber A_NoBox A_NoHand A_NoDeed A_THING_OF A_WITH_A_NUMBER A_TELLING tT tG tH tD tC tL tV tM))
    (C_Hall_need : Sd.CalM P w K mg base (L2.CX P w) 1 A_Hall "_need" ["self", "hand"] (Sd.spNeedHE A_Boxes A_Hand A_Hall A_NoHand))
    (C_Hall_step : Sd.CalM P w K mg base (L2.CX P w) 8 A_Hall "step" ["self", "hand"] (Sd.spHallStepE A_Boxes A_Hand A_Hall A_NoHand))
    : FnOk P w K mg base (L2.CX P w) 9 f fd ["self", "row"] (Sd.spWeaveE K A_Boxes A_Hand A_Hall A_NoHand) := by
  refine F.okX sc_Hall_weave (fun vs H Q E h => ?_) (fun cdv A outer s H vs Q E hr h => ?_)
  · obtain ⟨g, s, rw, row, rfl, _⟩ := h
    rfl
  · obtain ⟨g, s, rw', row, rfl, hA, hrow, hcase⟩ := h
    refine ⟨_, (pss_cons (ps_for (passes_of rfl) rfl (pi_list (pv 1)) (pg_name (i := 2) sc_Hall_weave.nd rfl (Or.inl rfl))
      (pss_one (ps_expr (Sd.pe_mt C_Hall_need (hr.mono (by decide)) (passes_call (takes_of rfl rfl rfl rfl) (fun _ _ _ _ h => h)) (pv 0) (pa_cons (pv 2) pa_nil)))))
      (pss_cons (ps_set (i := 3) sc_Hall_weave.nd rfl (Or.inl rfl) pe_int)
      (pss_cons (ps_for (passes_of rfl) rfl (pi_list (pv 1)) (pg_name (i := 2) sc_Hall_weave.nd rfl (Or.inl rfl))
      (pss_one (ps_if (pt_val (Sd.pe_mt C_Hall_step (hr.mono (by decide)) (passes_call (takes_of rfl rfl rfl rfl) (fun _ _ _ _ h => h)) (pv 0) (pa_cons (pv 2) pa_nil)))
      (pss_one (ps_aug (i := 3) sc_Hall_weave.nd rfl (Or.inl rfl) pe_int ip_add))
      pss_nil)))
      (pss_one (ps_ret (pv 3)))))), ?_⟩
    obtain ⟨dx, hob⟩ := hA.ob
    refine ⟨_, rfl, rw', rfl, ⟨_, SqL.of hrow⟩, ?_⟩
    rcases hcase with ⟨rfl, q⟩ | ⟨⟨i0, hi0, bad0⟩, e⟩
    · refine for_list (K := K) (xs := []) (fun k σ H' => H' = H ∧ σ = [some (.ref g.ha), some (.ref rw'), none, none]) ⟨rfl, rfl⟩ (fun k σ H' _ h => by rw [h.1]; exact SqL.of hrow) ?_ ?_
      · rintro k x σ H' hx _
        cases hx
      rintro σ H' ⟨rfl, rfl⟩
      refine ⟨_, rfl, rw', rfl, ⟨_, SqL.of hrow⟩, ?_⟩
      refine for_list (K := K) (xs := []) (fun k σ H2 => H2 = H' ∧ σ = [some (.ref g.ha), some (.ref rw'), none, some (.int 0)]) ⟨rfl, rfl⟩ (fun k σ H2 _ h => by rw [h.1]; exact SqL.of hrow) ?_ ?_
      · rintro k x σ H2 hx _
        cases hx
      rintro σ H2 ⟨rfl, rfl⟩
      exact ⟨_, rfl, q⟩
    · refine for_list (K := K) (xs := row.map V.int) (fun k σ H' => H' = H ∧ (∃ x, σ = [some (.ref g.ha), some (.ref rw'), x, none]) ∧ ∃ j i, k ≤ j ∧ row[j]? = some i ∧ Sd.NoSuch s i) ⟨rfl, ⟨none, rfl⟩, (by obtain ⟨j, hj⟩ := List.getElem?_of_mem hi0; exact ⟨j, i0, Nat.zero_le _, hj, bad0⟩)⟩ (fun k σ H' _ h => by rw [h.1]; exact SqL.of hrow) ?_ ?_
      · rintro k x σ H' hx ⟨rfl, ⟨y, rfl⟩, j, i, hkj, hj, bad⟩
        rw [List.getElem?_map] at hx
        obtain ⟨i1, hi1, rfl⟩ := Option.map_eq_some_iff.mp hx
        refine ⟨_, rfl, g.ha, dx, _, rfl, hob, rfl, _, rfl, g, s, i1, rfl, hA, ?_⟩
        by_cases c : Sd.NoSuch s i1
        · exact .inr ⟨c, e⟩
        · have c' : 0 ≤ i1 ∧ i1 < s.many := by
            unfold Sd.NoSuch at c
            omega
          refine .inl ⟨c'.1, c'.2, rfl, ⟨_, rfl⟩, j, i, ?_, hj, bad⟩
          rcases Nat.lt_or_eq_of_le hkj with z | z
          · exact z
          · subst z
            rw [hi1] at hj
            cases hj
            exact absurd bad c
      rintro σ H' ⟨rfl, ⟨y, rfl⟩, j, i, hkj, hj, bad⟩
      have := (List.getElem?_eq_some_iff.mp hj).1
      rw [List.length_map] at hkj
      omega
end


section
variable {P : Program} {w : World} {K : PySem.W.Frag} {mg : Str → Option Value} {base : Heap} {A_Boxes A_Hand A_Hall A_HandsError A_NoNumber A_NoBox A_NoHand A_NoDeed A_THING_OF A_WITH_A_NUMBER A_TELLING : Addr} {tT tG tH tD tC tL tV tM : Tok}
abbrev N_l_plans : List Str := ["_law_d", "_law_many", "_law_words_here", "_law_most", "_law_plans_here", "_law_hand", "_law_plan", "_law_k", "_law_word"]
theorem sc_l_plans : FnScope N_l_plans ["_law_d", "_law_many", "_law_words_here", "_law_most"] (defScope s_l_plans) := ⟨rfl, rfl, rfl, by decide +kernel, rfl, by decide +kernel, by decide +kernel⟩
theorem ok_l_plans {f : Addr} {fd : FuncData} (F : Fun K "_law_plans" "_law_plans" s_l_plans f fd) (T : (Txt K mg w A_Boxes A_Hand A_Hall A_HandsError A_NoNumber A_NoBox A_NoHand A_NoDeed A_THING_OF A_WITH_A_NUMBER A_TELLING tT tG tH tD tC tL tV tM))
    (C_l_off : Sd.Cal P w K mg base CX0 2 "_law_off" ["_law_d", "_law_most"] (Sd.spOff K))
    (C_l_deed : Sd.Cal P w K mg base CX0 3 "_law_deed" ["_law_d", "_law_word"] (Sd.spLDeed K))
    : FnOk P w K mg base CX0 4 f fd ["_law_d", "_law_many", "_law_words_here", "_law_most"] (Sd.spPlans K) := by
  refine F.ok sc_l_plans (fun vs H Q E h => ?_) (fun cdv A outer s H vs Q E hr h => ?_)
  · obtain ⟨d, a, wl, ns, ws, m, most, rfl, _⟩ := h
    rfl
  · obtain ⟨d, a, wl, ns, ws, m, most, rfl, D, hS, hwl, nwl, hws, hw0, hw1, hm, hmost, q⟩ := h
    refine ⟨_, (pss_cons (ps_set (i := 4) sc_l_plans.nd rfl (Or.inl rfl) (pe_lst pa_nil))
      (pss_cons (ps_for PassesOwn.never rfl (pi_range1 rfl T.range (pa_cons (pv 1) pa_nil)) (pg_name (i := 5) sc_l_plans.nd rfl (Or.inl rfl))
      (pss_cons (ps_set (i := 6) sc_l_plans.nd rfl (Or.inl rfl) (pe_lst pa_nil))
      (pss_cons (ps_for PassesOwn.never rfl (pi_range1 rfl T.range (pa_cons (Sd.pe_fn C_l_off (hr.mono (by decide)) pass0 (pa_cons (pv 0) (pa_cons (pe_op op_add (pv 3) pe_int) pa_nil))) pa_nil)) (pg_name (i := 7) sc_l_plans.nd rfl (Or.inl rfl))
      (pss_cons (ps_set (i := 8) sc_l_plans.nd rfl (Or.inl rfl) (pe_ix ix_list (pv 2) (Sd.pe_fn C_l_off (hr.mono (by decide)) pass0 (pa_cons (pv 0) (pa_cons (pe_callB call_len_seq (by rfl) T.len (by decide +kernel) (pa_cons (pv 2) pa_nil)) pa_nil))) (fun _ _ => rfl)))
      (C8.pss_cut (ps_if (PW.pt (pw_and (pt_cmpR op_eq (pv 8) pe_str (nomark _)) (pw_and1 (pt_cmpR op_gt (pv 5) pe_int (nomark _)))))
      (pss_one (ps_set (i := 8) sc_l_plans.nd rfl (Or.inl rfl) pe_str))
      pss_nil)
      (pss_one (ps_expr (pe_bm PySem.F.plainAttrs_list PySem.F.slot_list_append PySem.F.type_list_append mt_append (pv 6) (pa_cons (Sd.pe_fn C_l_deed (hr.mono (by decide)) pass0 (pa_cons (pv 0) (pa_cons (pv 8) pa_nil))) pa_nil)))))))
      (pss_one (ps_expr (pe_bm PySem.F.plainAttrs_list PySem.F.slot_list_append PySem.F.type_list_append mt_append (pv 4) (pa_cons (pv 6) pa_nil)))))))
      (pss_one (ps_ret (pv 4))))), ?_⟩
    refine ⟨(by show 0 ≤ sizeLine; decide), fun pl hpl => ?_⟩
    have npd : pl ≠ d := (D.ne hpl).symm
    refine ⟨_, rfl, _, rfl, by omega, by omega, ?_⟩
    refine for_range (lo := 0) (n := ((m : Nat) : Int).toNat) (fun i σ H' => ∃ (ls : List Addr) (pss : List (List Addr)) (plans : List (List Sd.Deed)) (v5 v6 v7 v8 : Option V), σ = [some (.ref d), some (.int m), some (.ref wl), some (.int most), some (.ref pl), v5, v6, v7, v8] ∧
        Sd.DrawnP H H' pl ls pss plans most ∧ plans.length = i ∧ Sd.Dice H' d a ∧ SqL K H' a (ns.map V.int) ∧ Sd.But d H H')
      ⟨[], [], [], none, none, none, none, rfl, ⟨upd_same, .nil, .nil, hpl, (by simp), (by simp), (by simp), (by simp), (by simp), (by simp)⟩, rfl, D.same (Sd.Same.new hpl), (Sd.Same.new hpl).seq hS, Sd.Same.but (Sd.Same.new hpl)⟩ ?_ ?_
    · rintro i σ H1 hi ⟨ls, pss, plans, v5, v6, v7, v8, rfl, R, hlen, D1, S1, b1⟩
      have e0 : (0 : Int) + (i : Nat) = ((i : Nat) : Int) := Int.zero_add _
      have ndl : ∀ {x : Addr} {H' : Hp}, Sd.Dice H' d a → H x = none → x ≠ d := fun D' hx z => by
        obtain ⟨_, hd⟩ := D.some
        rw [z, hd] at hx
        cases hx
      have R_off : ∀ {G G' : Hp} {ls : List Addr} {pss : List (List Addr)} {plans : List (List Sd.Deed)}, Sd.DrawnP H G pl ls pss plans most → Sd.Dice G d a → Sd.But d G G' → Sd.DrawnP H G' pl ls pss plans most := fun R D1 b =>
        R.mono (F := [d]) (fun c o n e => b c o (fun z => n (by rw [z]; exact List.mem_singleton.mpr rfl)) e) (fun x hx mm => by
          rw [List.mem_singleton.mp mm] at hx
          rcases List.mem_cons.mp hx with e | e
          · exact npd e.symm
          · exact ndl D1 (R.fls _ e) rfl) (fun x xs e => b _ _ (fun z => by
            obtain ⟨_, _, _, hd⟩ := D1
            rw [z, hd] at e
            cases e) e)
      refine ⟨(by show 0 ≤ sizeLine; decide), fun p hp => ?_⟩
      have s2 := Sd.Same.new (o := .lst []) hp
      have c2 : upd H1 p (.lst []) p = some (.lst (([] : List Addr).map V.ref)) := upd_same
      have R2 := R.mono (F := []) (Sd.Off.of_same s2) (by simp) (Sd.Tu.same s2)
      have D2 := D1.same s2
      have S2 := s2.seq S1
      have b2 : Sd.But d H _ := b1.trans (Sd.Same.but s2)
      generalize upd H1 p (.lst []) = H2 at s2 c2 R2 D2 S2 b2 ⊢
      have npd2 : p ≠ d := (D1.ne hp).symm
      have fp : H p = none := by
        cases z : H p with
        | none => rfl
        | some o => rw [b1 _ _ npd2 z] at hp; cases hp
      have nppl : p ≠ pl := fun z => by rw [z, R.hpl] at hp; cases hp
      have npls : p ∉ ls := fun mm => by
        have : ∀ {ls : List Addr} {pss : List (List Addr)}, Paired (fun l ps => H1 l = some (.lst (ps.map V.ref))) ls pss → ∀ y ∈ ls, ∃ o, H1 y = some o := by
          intro ls pss hp
          induction hp with
          | nil => intro y hy; cases hy
          | cons r t ih =>
            intro y hy
            rcases List.mem_cons.mp hy with rfl | hy
            · exact ⟨_, r⟩
            · exact ih y hy
        obtain ⟨o, ho⟩ := this R.hls p mm
        rw [hp] at ho
        cases ho
      -- how many
      refine ⟨_, rfl, _, rfl, _, _, rfl, rfl, d, a, ns, _, rfl, D2, S2, by omega, by omega, fun r H3 r0 r1 D3 o3 => ⟨_, rfl, by omega, by omega, ?_⟩⟩
      have b23 : Sd.But d H2 H3 := fun c u n e => by rw [o3 c n]; exact e
      have R3 := R_off R2 D2 b23
      have S3 := D2.seq b23 S2
      refine for_range (lo := 0) (n := r.toNat) (fun j σ H' => ∃ (ps : List Addr) (plan : List Sd.Deed) (v7 v8 : Option V), σ = [some (.ref d), some (.int m), some (.ref wl), some (.int most), some (.ref pl), some (.int ((0 : Int) + (i : Nat))), some (.ref p), v7, v8] ∧
          Sd.DrawnP H H' pl ls pss plans most ∧ Sd.Dice H' d a ∧ SqL K H' a (ns.map V.int) ∧ Sd.But d H H' ∧ H' p = some (.lst (ps.map V.ref)) ∧ Sd.PlanAt H' ps plan ∧ plan.length = j ∧ (∀ x ∈ plan, x.ok) ∧ (∀ x ∈ plan, x = .take → i = 0))
        ⟨[], [], v7, v8, rfl, R3, D3, S3, b2.trans b23, b23 _ _ npd2 c2, .nil, rfl, (by simp), (by simp)⟩ ?_ ?_
      · rintro j σ H4 hj ⟨ps, plan, v7, v8, rfl, R4, D4, S4, b4, c4, P4, hpl4, ok4, tk4⟩
        have hwl4 := b4 _ _ nwl hwl
        refine ⟨_, rfl, _, rfl, _, rfl, wl, _, rfl, .inl (SqL.of hwl4), d, a, ns, _, rfl, D4, S4, by rw [List.length_map]; omega, by rw [List.length_map]; omega, fun r5 H5 r50 r51 D5 o5 => ?_⟩
        have b45 : Sd.But d H4 H5 := fun c u n e => by rw [o5 c n]; exact e
        have R5 := R_off R4 D4 b45
        have S5 := D4.seq b45 S4
        have tu45 : Sd.Tu H4 H5 := fun x xs e => b45 _ _ (fun z => by
            obtain ⟨_, _, _, hd⟩ := D4
            rw [z, hd] at e
            cases e) e
        have hwl5 := b45 _ _ nwl hwl4
        rw [List.length_map] at r51
        obtain ⟨rn, hrn⟩ := Int.eq_ofNat_of_zero_le r50
        have hr5 : rn < ws.length := by omega
        have hwm := hws _ (List.getElem_mem hr5)
        refine ⟨wl, _, _, _, rfl, rfl, SqL.of hwl5, at_of hrn (by rw [List.getElem?_map, List.getElem?_eq_getElem hr5]; rfl), ?_⟩
        generalize ws[rn] = wd at hwm ⊢
        refine ⟨fun σ' H' => H' = H5 ∧ ∃ wd' : Str, wd' ∈ Sd.words10 ∧ (wd' = "take" → i = 0) ∧ σ' = [some (.ref d), some (.int m), some (.ref wl), some (.int most), some (.ref pl), some (.int ((0 : Int) + (i : Nat))), some (.ref p), some (.int ((0 : Int) + (j : Nat))), some (.str wd')], ?_, ?_⟩
        · refine ⟨_, rfl, rfl, _, rfl, ?_⟩
          by_cases ct : wd = "take"
          · rw [ct, decide_eq_true rfl]
            refine ⟨_, rfl, _, _, rfl, rfl, _, rfl, ?_⟩
            refine ite2 (fun c => ?_) (fun c => ?_)
            · exact ⟨rfl, "give", by decide +kernel, fun z => absurd z (by decide +kernel), rfl⟩
            · refine ⟨rfl, "take", by decide +kernel, fun _ => ?_, rfl⟩
              have : ¬ (0 < (0 : Int) + (i : Nat)) := fun z => c (decide_eq_true z)
              omega
          · have : V.str wd = V.str "take" → False := fun z => by
              injection z with z
              exact ct z
            rw [decide_eq_false this]
            exact ⟨rfl, wd, hwm, fun z => absurd z ct, rfl⟩
        · rintro σ' H' ⟨rfl, wd', hw', ht', rfl⟩
          have c5 := b45 _ _ npd2 c4
          refine ⟨_, rfl, .inl ⟨rfl, _, SqL.of c5⟩, _, rfl, _, rfl, d, a, ns, wd', rfl, hw', D5, S5, fun x H6 dd ew hok hx hx6 D6 b56 => ?_⟩
          have c6 := b56 _ _ npd2 c5
          have R6 := R_off R5 D5 b56
          have tu56 : Sd.Tu H' H6 := fun x xs e => b56 _ _ (fun z => by
            obtain ⟨_, _, _, hd⟩ := D5
            rw [z, hd] at e
            cases e) e
          refine ⟨p, _, _, rfl, rfl, c6, ?_, ?_⟩
          · rw [List.length_map, Sd.Paired.len P4, hpl4]
            exact Nat.lt_of_le_of_lt (by omega : j ≤ 100000) (by decide)
          have n6 : Sd.But p H6 (upd H6 p (.lst (ps.map V.ref ++ [.ref x]))) := Sd.But.upd
          have tu6 : Sd.Tu H6 (upd H6 p (.lst (ps.map V.ref ++ [.ref x]))) := Sd.Tu.upd fun xs e => by
            rw [c6] at e
            cases e
          refine ⟨ps ++ [x], plan ++ [dd], _, _, rfl, R6.mono (F := [p]) (Sd.Off.upd (List.mem_singleton.mpr rfl)) (fun y hy mm => ?_) tu6, D6.but n6 npd2.symm, ?_, fun c o n e => ?_, ?_, ?_, ?_, ?_, ?_⟩
          · rw [List.mem_singleton.mp mm] at hy
            rcases List.mem_cons.mp hy with e | e
            · exact nppl e
            · exact npls e
          · exact Sd.SqL.other hS fp (D5.seq b56 S5) n6
          · rw [upd_ne (ne_of_none e fp)]
            exact ((b4.trans b45).trans b56) _ _ n e
          · rw [upd_same, List.map_append]
            rfl
          · exact Sd.Paired.app (P4.tu ((tu45.trans tu56).trans tu6)) (tu6 _ _ hx6)
          · rw [List.length_append, hpl4]
            rfl
          · intro y hy
            rcases List.mem_append.mp hy with hy | hy
            · exact ok4 y hy
            · rw [List.mem_singleton.mp hy]
              exact hok
          · intro y hy hyt
            rcases List.mem_append.mp hy with hy | hy
            · exact tk4 y hy hyt
            · rw [List.mem_singleton.mp hy] at hyt
              rw [hyt] at ew
              exact ht' ew.symm
      · rintro σ H4 ⟨ps, plan, v7, v8, rfl, R4, D4, S4, b4, c4, P4, hpl4, ok4, tk4⟩
        refine ⟨_, rfl, .inl ⟨rfl, _, SqL.of R4.hpl⟩, _, rfl, pl, _, _, rfl, rfl, R4.hpl, ?_, ?_⟩
        · rw [List.length_map, Sd.Paired.len R4.hls, Sd.Paired.len R4.hps, hlen]
          exact Nat.lt_of_le_of_lt (by omega : i ≤ 100) (by decide)
        have R5 := R4.add c4 P4 fp nppl npls (by omega) ok4 (fun x hx ht => by rw [hlen]; exact tk4 x hx ht)
        have n5 : Sd.But pl H4 (upd H4 pl (.lst (ls.map V.ref ++ [.ref p]))) := Sd.But.upd
        refine ⟨ls ++ [p], pss ++ [ps], plans ++ [plan], _, _, _, _, rfl, R5, by rw [List.length_append, hlen]; rfl, D4.but n5 npd.symm, Sd.SqL.other hS hpl S4 n5, fun c o n e => ?_⟩
        rw [upd_ne (ne_of_none e hpl)]
        exact b4 _ _ n e
    · rintro σ H' ⟨ls, pss, plans, v5, v6, v7, v8, rfl, R, hlen, D1, S1, b1⟩
      exact ⟨_, rfl, q pl ls pss plans H' R (by omega) D1 S1 b1⟩
end

section
variable {P : Program} {w : World} {K : PySem.W.Frag} {mg : Str → Option Value} {base : Heap} {A_Boxes A_Hand A_Hall A_HandsError A_NoNumber A_NoBox A_NoHand A_NoDeed A_THING_OF A_WITH_A_NUMBER A_TELLING : Addr} {tT tG tH tD tC tL tV tM : Tok}
abbrev N_Hall_touches : List Str := ["self"]
theorem sc_Hall_touches : FnScope N_Hall_touches ["self"] (defScope s_Hall_touches) := ⟨rfl, rfl, rfl, by decide +kernel, rfl, by decide +kernel, by decide +kernel⟩
theorem ok_Hall_touches {f : Addr} {fd : FuncData} (F : Fun K "touches" "Hall.touches" s_Hall_touches f fd) (T : (Txt K mg w A_Boxes A_Hand A_Hall A_HandsError A_NoNumber A_NoBox A_NoHand A_NoDeed A_THING_OF A_WITH_A_NUMBER A_TELLING tT tG tH tD tC tL tV tM))
    : FnOk P w K mg base CX0 1 f fd ["self"] (Sd.spTouches A_Boxes A_Hand A_Hall) := by
  refine F.ok sc_Hall_touches (fun vs H Q E h => ?_) (fun cdv A outer s H vs Q E hr h => ?_)
  · obtain ⟨g, s, rfl, _⟩ := h
    rfl
  · obtain ⟨g, s, rfl, hA, q⟩ := h
    refine ⟨_, (pss_one (ps_ret (pe_callTy call_list_of (by rfl) T.list (by decide +kernel) (pa_cons (pe_fld (pv 0) rfl) pa_nil)))), ?_⟩
    obtain ⟨dx, hob⟩ := hA.ob
    obtain ⟨vs, hrc, hvs⟩ := hA.tc
    exact ⟨_, rfl, g.ha, A_Hall, dx, _, _, rfl, hob, T.cl_Hall, T.n_Hall__touches, rfl, g.tc, _, rfl, .inl (SqL.of hrc), fun l hl => q l vs hl hvs⟩
end

--@@CUT1
section
variable {P : Program} {w : World} {K : PySem.W.Frag} {mg : Str → Option Value} {base : Heap} {A_Boxes A_Hand A_Hall A_HandsError A_NoNumber A_NoBox A_NoHand A_NoDeed A_THING_OF A_WITH_A_NUMBER A_TELLING : Addr} {tT tG tH tD tC tL tV tM : Tok}
theorem gv_word (d : Sd.Deed) : decide (V.str d.word = V.str "give") = Sd.isGv d := by
  cases d <;> first | decide +kernel | (show decide (V.str "set" = _) = false; decide +kernel) | (show decide (V.str "add" = _) = false; decide +kernel) | (show decide (V.str "raise" = _) = false; decide +kernel) | (show decide (V.str "give" = _) = true; decide +kernel)
theorem tk_word (d : Sd.Deed) : decide (V.str d.word = V.str "take") = Sd.isTk d := by
  cases d <;> first | decide +kernel | (show decide (V.str "set" = _) = false; decide +kernel) | (show decide (V.str "add" = _) = false; decide +kernel) | (show decide (V.str "raise" = _) = false; decide +kernel) | (show decide (V.str "give" = _) = false; decide +kernel)
abbrev N__gives : List Str := ["records", "marks", "place_of", "place", "told"]
theorem sc__gives : FnScope N__gives ["records", "marks"] (defScope s__gives) := ⟨rfl, rfl, rfl, by decide +kernel, rfl, by decide +kernel, by decide +kernel⟩
theorem ok__gives {f : Addr} {fd : FuncData} (F : Fun K "_gives" "_gives" s__gives f fd) (T : (Txt K mg w A_Boxes A_Hand A_Hall A_HandsError A_NoNumber A_NoBox A_NoHand A_NoDeed A_THING_OF A_WITH_A_NUMBER A_TELLING tT tG tH tD tC tL tV tM))
    : FnOk P w K mg base CX0 1 f fd ["records", "marks"] (Sd.spGives) := by
  refine F.ok sc__gives (fun vs H Q E h => ?_) (fun cdv A outer s H vs Q E hr h => ?_)
  · obtain ⟨rl, ml, recs, marks, m, rfl, _⟩ := h
    rfl
  · obtain ⟨rl, ml, recs, marks, m, rfl, hR, hM, O, q⟩ := h
    refine ⟨_, (pss_cons (ps_set (i := 2) sc__gives.nd rfl (Or.inl rfl) pe_dnewT)
      (pss_cons (ps_for PassesOwn.never rfl (pi_range1 rfl T.range (pa_cons (pe_callB call_len_seq (by rfl) T.len (by decide +kernel) (pa_cons (pv 0) pa_nil)) pa_nil)) (pg_name (i := 3) sc__gives.nd rfl (Or.inl rfl))
      (pss_one (ps_if (pt_cmpR op_eq (pe_ix ix_tup (pe_ix ix_tup (pe_ix ix_list (pv 0) (pv 3) (fun _ _ => rfl)) pe_int (fun _ _ => rfl)) pe_int (fun _ _ => rfl)) pe_str (nomark _))
      (pss_one (ps_dput (hu_of hr) (pv 2) (pe_ix ix_list (pv 1) (pv 3) (fun _ _ => rfl)) (pv 3) rfl))
      pss_nil)))
      (pss_cons (ps_set (i := 4) sc__gives.nd rfl (Or.inl rfl) (pe_lst pa_nil))
      (pss_cons (ps_for PassesOwn.never rfl (pi_range1 rfl T.range (pa_cons (pe_callB call_len_seq (by rfl) T.len (by decide +kernel) (pa_cons (pv 0) pa_nil)) pa_nil)) (pg_name (i := 3) sc__gives.nd rfl (Or.inl rfl))
      (pss_one (ps_if (PW.pt (pw_and (pt_cmpR op_eq (pe_ix ix_tup (pe_ix ix_tup (pe_ix ix_list (pv 0) (pv 3) (fun _ _ => rfl)) pe_int (fun _ _ => rfl)) pe_int (fun _ _ => rfl)) pe_str (nomark _)) (pw_and1 (pt_cmpR op_notN (pe_ix ix_list (pv 1) (pv 3) (fun _ _ => rfl)) pe_non (nomark _)))))
      (pss_one (ps_expr (pe_bm PySem.F.plainAttrs_list PySem.F.slot_list_append PySem.F.type_list_append mt_append (pv 4) (pa_cons (pe_bm PySem.F.plainAttrs_dict PySem.F.slot_dict_pop PySem.F.type_dict_pop (Sd.mt_popT1 (hu_of hr)) (pv 2) (pa_cons (pe_ix ix_list (pv 1) (pv 3) (fun _ _ => rfl)) pa_nil)) pa_nil))))
      pss_nil)))
      (pss_one (ps_ret (pe_op op_cat (pv 4) (Sd.pe_listVals rfl (pv 2) rfl T.list (by decide +kernel))))))))), ?_⟩
    refine fun d hd => ?_
    obtain ⟨vs, hrl, hvl⟩ := hR.len
    have hn200 := O.n
    have hml := O.len
    have s1 := Sd.Same.new (o := .dT []) hd
    have c1 : upd H d (.dT []) d = some (.dT []) := upd_same
    generalize upd H d (.dT []) = H1 at s1 c1 ⊢
    refine ⟨_, rfl, rl, _, rfl, .inl (SqL.of (s1 _ _ hrl)), _, rfl, by omega, by omega, ?_⟩
    refine for_range (lo := 0) (n := ((vs.length : Nat) : Int).toNat) (fun j σ H' => Same H H' ∧ H' d = some (.dT ((Sd.gvs recs j).map (Sd.gent (Sd.markN marks)))) ∧ ∃ x y : Option V, σ = [some (.ref rl), some (.ref ml), some (.ref d), x, y])
      ⟨s1, c1, none, none, rfl⟩ ?_ ?_
    · rintro j σ H' hj ⟨s2, c2, x, y, rfl⟩
      have hj2 : j < recs.length := by omega
      have e0 : (0 : Int) + (j : Nat) = ((j : Nat) : Int) := Int.zero_add _
      obtain ⟨vs2, rp, dp, av, h1, h2, h3, h4, h5, h6⟩ := (hR.off s2).at_ hj2
      rw [← e0] at h3
      refine ⟨_, rfl, _, rfl, rl, _, _, _, rfl, rfl, SqL.of h1, h3, rp, _, _, _, rfl, rfl, SqT.of h4, atI_nat (j := 1) rfl, dp, _, _, _, rfl, rfl, SqT.of h5, (Sd.recN recs j).deed.at0, rfl, _, rfl, ?_⟩
      rw [gv_word]
      rw [Sd.gvs_succ]
      cases hg : Sd.isGv (Sd.recN recs j).deed with
      | false => exact ⟨s2, c2, _, _, rfl⟩
      | true =>
        obtain ⟨vm, mv, k1, k2, k3⟩ := (hM.off s2).at_ (p := j) (by omega)
        rw [← e0] at k2
        obtain ⟨hh, kk, hk⟩ := O.gm j hj2 hg
        rw [hk] at k3
        obtain ⟨b, rfl, hb⟩ := k3
        have hb2 : H' b = some (.tup ((Sd.gkey (Sd.markN marks j)).map kV)) := by rw [hk]; exact hb
        refine ⟨_, rfl, _, rfl, _, rfl, _, rfl, ml, _, _, _, rfl, rfl, SqL.of k1, k2, d, _, rfl, DPut.t (k := Sd.gkey (Sd.markN marks j)) c2 hb2 ?_, ?_⟩
        · rw [List.length_map]
          have : (Sd.gvs recs j).length ≤ _ := List.length_filter_le (fun p => Sd.isGv (Sd.recN recs p).deed) (List.range j)
          rw [List.length_range] at this
          exact small1000 (by omega)
        · refine ⟨upd_same' s2 hd, ?_, _, _, rfl⟩
          rw [upd_same, O.put hj2 hg]
          show _ = some (HO.dT ((Sd.gvs recs j ++ [j]).map (Sd.gent (Sd.markN marks))))
          rw [List.map_append]
          show some (HO.dT (_ ++ [(_, V.int ((0 : Int) + (j : Nat)))])) = _
          rw [e0]
          rfl
    · rintro σ H2 ⟨s2, c2, x, y, rfl⟩
      have ev : ((vs.length : Nat) : Int).toNat = recs.length := by omega
      rw [ev, ← Sd.left_zero (marks := marks)] at c2
      refine ⟨(by show 0 ≤ sizeLine; decide), fun tl htl => ?_⟩
      have fH : H tl = none := s2.free htl
      have ntd : tl ≠ d := (ne_of_none c2 htl).symm
      have s3 := s2.trans (Sd.Same.new (o := .lst []) htl)
      have c3 : upd H2 tl (.lst []) d = _ := (Sd.Same.new htl) _ _ c2
      have t3 : upd H2 tl (.lst []) tl = some (.lst []) := upd_same
      generalize upd H2 tl (.lst []) = H3 at s3 c3 t3 ⊢
      refine ⟨_, rfl, rl, _, rfl, .inl (SqL.of (s3 _ _ hrl)), _, rfl, by omega, by omega, ?_⟩
      refine for_range (lo := 0) (n := ((vs.length : Nat) : Int).toNat) (fun j σ H' => Same H H' ∧ H' d = some (.dT ((Sd.leftTo recs marks j).map (Sd.gent (Sd.markN marks)))) ∧ H' tl = some (.lst ((Sd.toldTo recs marks j).map fun i : Nat => V.int (i : Int))) ∧ ∃ x : Option V, σ = [some (.ref rl), some (.ref ml), some (.ref d), x, some (.ref tl)])
        ⟨s3, c3, t3, x, rfl⟩ ?_ ?_
      · rintro j σ H' hj ⟨s4, c4, t4, x, rfl⟩
        have hj2 : j < recs.length := by omega
        have e0 : (0 : Int) + (j : Nat) = ((j : Nat) : Int) := Int.zero_add _
        obtain ⟨vs2, rp, dp, av, h1, h2, h3, h4, h5, h6⟩ := (hR.off s4).at_ hj2
        rw [← e0] at h3
        refine ⟨_, rfl, _, rfl, rl, _, _, _, rfl, rfl, SqL.of h1, h3, rp, _, _, _, rfl, rfl, SqT.of h4, atI_nat (j := 1) rfl, dp, _, _, _, rfl, rfl, SqT.of h5, (Sd.recN recs j).deed.at0, rfl, _, rfl, ?_⟩
        rw [tk_word]
        cases ht : Sd.isTk (Sd.recN recs j).deed with
        | false =>
          obtain ⟨e1, e2⟩ := Sd.left_same (Sd.giver_none (recs := recs) (marks := marks) (j := j) (fun z => by rw [ht] at z; cases z.1))
          exact ⟨s4, by rw [e1]; exact c4, by rw [e2]; exact t4, _, rfl⟩
        | true =>
          obtain ⟨vm, mv, k1, k2, k3⟩ := (hM.off s4).at_ (p := j) (by omega)
          rw [← e0] at k2
          by_cases hm : Sd.markN marks j = .non
          · rw [hm] at k3
            cases (show mv = .non from k3)
            obtain ⟨e1, e2⟩ := Sd.left_same (Sd.giver_none (recs := recs) (marks := marks) (j := j) (fun z => z.2 hm))
            refine ⟨_, rfl, _, rfl, ml, _, _, _, rfl, rfl, SqL.of k1, k2, rfl, _, rfl, ?_⟩
            exact ⟨s4, by rw [e1]; exact c4, by rw [e2]; exact t4, _, rfl⟩
          · obtain ⟨g, hh, kk, g1, g2, g3, g4⟩ := O.pop hj2 ht hm
            rw [g1] at k3
            obtain ⟨b, rfl, hb⟩ := k3
            have hb2 : H' b = some (.tup ((Sd.gkey (Sd.markN marks j)).map kV)) := by rw [g1]; exact hb
            refine ⟨_, rfl, _, rfl, ml, _, _, _, rfl, rfl, SqL.of k1, k2, rfl, _, rfl, ?_⟩
            refine ⟨_, rfl, .inl ⟨rfl, _, SqL.of t4⟩, _, rfl, .inr (.inr (.inl ⟨rfl, .inr ⟨_, c4⟩⟩)), _, rfl, _, rfl, ml, _, _, _, rfl, rfl, SqL.of k1, k2, d, _, _, b, _, rfl, rfl, c4, hb2, g3, ?_⟩
            rw [g4]
            have t5 : upd H' d (.dT ((Sd.leftTo recs marks (j + 1)).map (Sd.gent (Sd.markN marks)))) tl = _ := (upd_ne ntd).trans t4
            refine ⟨tl, _, _, rfl, rfl, t5, ?_, ?_⟩
            · rw [List.length_map]
              have : (Sd.toldTo recs marks j).length ≤ _ := List.length_filterMap_le (Sd.giver recs.length (Sd.recN recs) (Sd.markN marks)) (List.range j)
              rw [List.length_range] at this
              exact small1000 (by omega)
            · refine ⟨upd_same' (upd_same' s4 hd) fH, (upd_ne ntd.symm).trans upd_same, ?_, _, rfl⟩
              rw [upd_same, Sd.toldTo_succ, g2, List.map_append]
              rfl
      · rintro σ H4 ⟨s4, c4, t4, x, rfl⟩
        rw [ev, Sd.left_all] at c4
        rw [ev, Sd.told_all] at t4
        refine ⟨_, rfl, _, rfl, d, _, rfl, c4, fun l hl => ?_⟩
        have s5 := Sd.Same.new (o := .lst (((Sd.rest recs.length (Sd.recN recs) (Sd.markN marks)).map (Sd.gent (Sd.markN marks))).map (·.2))) hl
        have ev2 : ((Sd.rest recs.length (Sd.recN recs) (Sd.markN marks)).map (Sd.gent (Sd.markN marks))).map (·.2) = (Sd.rest recs.length (Sd.recN recs) (Sd.markN marks)).map fun i : Nat => V.int (i : Int) := by rw [List.map_map]; rfl
        have c5 : upd H4 l (.lst (((Sd.rest recs.length (Sd.recN recs) (Sd.markN marks)).map (Sd.gent (Sd.markN marks))).map (·.2))) l = some (.lst ((Sd.rest recs.length (Sd.recN recs) (Sd.markN marks)).map fun i : Nat => V.int (i : Int))) := by rw [upd_same, ev2]
        generalize upd H4 l (.lst (((Sd.rest recs.length (Sd.recN recs) (Sd.markN marks)).map (Sd.gent (Sd.markN marks))).map (·.2))) = H5 at s5 c5 ⊢
        refine ⟨tl, l, _, _, rfl, rfl, s5 _ _ t4, c5, ?_, fun p hp => ?_⟩
        · rw [List.length_map, List.length_map]
          have a1 := List.length_filterMap_le (Sd.giver recs.length (Sd.recN recs) (Sd.markN marks)) (List.range recs.length)
          have a2 := List.length_filter_le (fun g => Sd.isGv (Sd.recN recs g).deed && !decide (g ∈ Sd.told recs.length (Sd.recN recs) (Sd.markN marks))) (List.range recs.length)
          rw [List.length_range] at a1 a2
          exact Nat.le_trans (show _ ≤ 1000 by unfold Sd.told Sd.rest; omega) (by decide)
        · refine q p _ ((s4.trans s5).free hp) (upd_same' (s4.trans s5) ((s4.trans s5).free hp)) ?_
          rw [upd_same]
          unfold Sd.seqM
          rw [List.map_append]
end
section
variable {P : Program} {w : World} {K : PySem.W.Frag} {mg : Str → Option Value} {base : Heap} {A_Boxes A_Hand A_Hall A_HandsError A_NoNumber A_NoBox A_NoHand A_NoDeed A_THING_OF A_WITH_A_NUMBER A_TELLING : Addr} {tT tG tH tD tC tL tV tM : Tok}
theorem pairs_upd {H : Hp} {kl : Addr} {bs : List Addr} {ks : List Sd.Key} {vs : List V} {o : HO} (h : Paired (Sd.KeyAt H) bs ks) (hk : H kl = some (.lst vs)) : Paired (Sd.KeyAt (upd H kl o)) bs ks :=
  Sd.Paired.mapM h fun x _ y e => by
    unfold Sd.KeyAt
    rw [upd_ne (fun z => by rw [Sd.KeyAt, z, hk] at e; cases e)]
    exact e
theorem pairs_same {H H' : Hp} {bs : List Addr} {ks : List Sd.Key} (h : Paired (Sd.KeyAt H) bs ks) (s : Same H H') : Paired (Sd.KeyAt H') bs ks := Sd.Paired.mapM h fun x _ y e => s _ _ e
/-- one key more -/
theorem key_more {H : Hp} {kl t : Addr} {bs : List Addr} {ks : List Sd.Key} {k : Sd.Key} {u : HO} (h : Paired (Sd.KeyAt H) bs ks) (hk : H kl = some (.lst (bs.map V.ref))) (ht : H t = none) (hu : u = .tup [.int (k.1 : Int), .int (k.2.1 : Int), .int (k.2.2 : Int)]) :
    Sd.KeysAt (upd (upd H t u) kl (.lst (bs.map V.ref ++ [.ref t]))) kl (ks ++ [k]) := by
  have s := Sd.Same.new (o := u) ht
  have ntk : t ≠ kl := (ne_of_none hk ht).symm
  refine ⟨bs ++ [t], by rw [upd_same, List.map_append]; rfl, Sd.Paired.app (pairs_upd (pairs_same h s) (s _ _ hk)) ?_⟩
  unfold Sd.KeyAt
  rw [upd_ne ntk, upd_same, hu]
abbrev tks (recs : List Sd.Rec) (marks : List Sd.Mark) (j : Nat) : List Sd.Key := ((List.range j).filter fun p => Sd.isTk (Sd.recN recs p).deed).map (Sd.takeKey (Sd.recN recs) (Sd.markN marks))
theorem tks_succ {recs : List Sd.Rec} {marks : List Sd.Mark} (j : Nat) : tks recs marks (j + 1) = if Sd.isTk (Sd.recN recs j).deed = true then tks recs marks j ++ [Sd.takeKey (Sd.recN recs) (Sd.markN marks) j] else tks recs marks j := by
  unfold tks
  rw [List.range_succ, List.filter_append, List.map_append]
  by_cases c : Sd.isTk (Sd.recN recs j).deed = true
  · rw [if_pos c, List.filter_cons_of_pos (p := fun p => Sd.isTk (Sd.recN recs p).deed) c]
    rfl
  · rw [if_neg c, List.filter_cons_of_neg (p := fun p => Sd.isTk (Sd.recN recs p).deed) c]
    exact List.append_nil _
theorem tks_len {recs : List Sd.Rec} {marks : List Sd.Mark} (j : Nat) : (tks recs marks j).length ≤ j := by
  unfold tks
  rw [List.length_map]
  exact Nat.le_trans (List.length_filter_le _ _) (by rw [List.length_range]; exact Nat.le_refl _)
abbrev N__line_keys : List Str := ["records", "marks", "keys", "place", "at", "sequence", "step", "rank", "end"]
theorem sc__line_keys : FnScope N__line_keys ["records", "marks"] (defScope s__line_keys) := ⟨rfl, rfl, rfl, by decide +kernel, rfl, by decide +kernel, by decide +kernel⟩
theorem ok__line_keys {f : Addr} {fd : FuncData} (F : Fun K "_line_keys" "_line_keys" s__line_keys f fd) (T : (Txt K mg w A_Boxes A_Hand A_Hall A_HandsError A_NoNumber A_NoBox A_NoHand A_NoDeed A_THING_OF A_WITH_A_NUMBER A_TELLING tT tG tH tD tC tL tV tM))
    (C__gives : Sd.Cal P w K mg base CX0 1 "_gives" ["records", "marks"] (Sd.spGives))
    : FnOk P w K mg base CX0 2 f fd ["records", "marks"] (Sd.spLineKeys) := by
  refine F.ok sc__line_keys (fun vs H Q E h => ?_) (fun cdv A outer s H vs Q E hr h => ?_)
  · obtain ⟨rl, ml, recs, marks, m, rfl, _⟩ := h
    rfl
  · obtain ⟨rl, ml, recs, marks, m, rfl, hR, hM, O, q⟩ := h
    refine ⟨_, (pss_cons (ps_set (i := 2) sc__line_keys.nd rfl (Or.inl rfl) (pe_lst pa_nil))
      (pss_cons (ps_for PassesOwn.never rfl (pi_range1 rfl T.range (pa_cons (pe_callB call_len_seq (by rfl) T.len (by decide +kernel) (pa_cons (pv 0) pa_nil)) pa_nil)) (pg_name (i := 3) sc__line_keys.nd rfl (Or.inl rfl))
      (pss_one (ps_if (pt_cmpR op_eq (pe_ix ix_tup (pe_ix ix_tup (pe_ix ix_list (pv 0) (pv 3) (fun _ _ => rfl)) pe_int (fun _ _ => rfl)) pe_int (fun _ _ => rfl)) pe_str (nomark _))
      (pss_cons (ps_set (i := 4) sc__line_keys.nd rfl (Or.inl rfl) (pe_ifExp (pt_cmpR op_isN (pe_ix ix_list (pv 1) (pv 3) (fun _ _ => rfl)) pe_non (nomark _)) pe_int pe_int))
      (pss_one (ps_expr (pe_bm PySem.F.plainAttrs_list PySem.F.slot_list_append PySem.F.type_list_append mt_append (pv 2) (pa_cons (pe_tup (pa_cons (pe_ix ix_tup (pe_ix ix_list (pv 0) (pv 3) (fun _ _ => rfl)) (pv 4) (fun _ _ => rfl)) (pa_cons pe_int (pa_cons (pv 3) pa_nil)))) pa_nil)))))
      pss_nil)))
      (pss_cons (ps_set (i := 5) sc__line_keys.nd rfl (Or.inl rfl) (Sd.pe_fn C__gives (hr.mono (by decide)) pass0 (pa_cons (pv 0) (pa_cons (pv 1) pa_nil))))
      (pss_cons (ps_set (i := 6) sc__line_keys.nd rfl (Or.inl rfl) pe_non)
      (pss_cons (ps_for PassesOwn.never rfl (pi_revR rfl T.reversed (prg_1 rfl T.range (pe_callB call_len_seq (by rfl) T.len (by decide +kernel) (pa_cons (pv 5) pa_nil)))) (pg_name (i := 7) sc__line_keys.nd rfl (Or.inl rfl))
      (pss_cons (ps_set (i := 8) sc__line_keys.nd rfl (Or.inl rfl) (pe_ix ix_tup (pe_ix ix_list (pv 0) (pe_ix ix_list (pv 5) (pv 7) (fun _ _ => rfl)) (fun _ _ => rfl)) pe_int (fun _ _ => rfl)))
      (pss_cons (ps_set (i := 6) sc__line_keys.nd rfl (Or.inl rfl) (pe_ifExp (pt_cmpR op_isN (pv 6) pe_non (nomark _)) (pv 8) (pe_callB (call_min2 rfl) (by rfl) T.min (by decide +kernel) (pa_cons (pv 6) (pa_cons (pv 8) pa_nil)))))
      (pss_one (ps_expr (pe_bm PySem.F.plainAttrs_list PySem.F.slot_list_append PySem.F.type_list_append mt_append (pv 2) (pa_cons (pe_tup (pa_cons (pv 6) (pa_cons (pv 7) (pa_cons (pe_ix ix_list (pv 5) (pv 7) (fun _ _ => rfl)) pa_nil)))) pa_nil)))))))
      (pss_one (ps_ret (pv 2)))))))), ?_⟩
    obtain ⟨vs, hrl, hvl⟩ := hR.len
    have hn200 := O.n
    have hml := O.len
    refine ⟨(by show 0 ≤ sizeLine; decide), fun kl hkl => ?_⟩
    have s1 := Sd.Same.new (o := .lst []) hkl
    have c1 : upd H kl (.lst []) kl = some (.lst []) := upd_same
    generalize upd H kl (.lst []) = H1 at s1 c1 ⊢
    refine ⟨_, rfl, rl, _, rfl, .inl (SqL.of (s1 _ _ hrl)), _, rfl, by omega, by omega, ?_⟩
    have ev : ((vs.length : Nat) : Int).toNat = recs.length := by omega
    refine for_range (lo := 0) (n := ((vs.length : Nat) : Int).toNat) (fun j σ H' => Same H H' ∧ Sd.KeysAt H' kl (tks recs marks j) ∧ ∃ v3 v4 v5 v6 v7 v8 : Option V, σ = [some (.ref rl), some (.ref ml), some (.ref kl), v3, v4, v5, v6, v7, v8])
      ⟨s1, ⟨[], c1, .nil⟩, none, none, none, none, none, none, rfl⟩ ?_ ?_
    · rintro j σ H' hj ⟨s2, ⟨bs, c2, p2⟩, v3, v4, v5, v6, v7, v8, rfl⟩
      have hj2 : j < recs.length := by omega
      have e0 : (0 : Int) + (j : Nat) = ((j : Nat) : Int) := Int.zero_add _
      obtain ⟨vs2, rp, dp, av, h1, h2, h3, h4, h5, h6⟩ := (hR.off s2).at_ hj2
      rw [← e0] at h3
      refine ⟨_, rfl, _, rfl, rl, _, _, _, rfl, rfl, SqL.of h1, h3, rp, _, _, _, rfl, rfl, SqT.of h4, atI_nat (j := 1) rfl, dp, _, _, _, rfl, rfl, SqT.of h5, (Sd.recN recs j).deed.at0, rfl, _, rfl, ?_⟩
      rw [tk_word, tks_succ]
      have hbl : bs.length < 1000 := by
        have := tks_len (recs := recs) (marks := marks) j
        rw [← Sd.Paired.len p2] at this
        omega
      cases ht : Sd.isTk (Sd.recN recs j).deed with
      | false => exact ⟨s2, ⟨bs, c2, p2⟩, _, _, _, _, _, _, rfl⟩
      | true =>
        obtain ⟨vm, mv, k1, k2, k3⟩ := (hM.off s2).at_ (p := j) (by omega)
        rw [← e0] at k2
        by_cases hm : Sd.markN marks j = .non
        · rw [hm] at k3
          cases (show mv = .non from k3)
          refine ⟨_, rfl, _, rfl, ml, _, _, _, rfl, rfl, SqL.of k1, k2, rfl, _, rfl, ?_⟩
          refine ⟨_, rfl, .inl ⟨rfl, _, SqL.of c2⟩, _, rfl, _, rfl, rl, _, _, _, rfl, rfl, SqL.of h1, h3, _, rfl, rp, _, _, _, rfl, rfl, SqT.of h4, atI_nat (j := 2) rfl, _, rfl, (by show 3 ≤ sizeLine; decide), fun t ht => ?_⟩
          have hkt := key_more (k := Sd.takeKey (Sd.recN recs) (Sd.markN marks) j) (u := .tup [.int (Sd.recN recs j).beg, .int 0, .int ((0 : Int) + (j : Nat))]) p2 c2 ht (by unfold Sd.takeKey; rw [if_pos hm, e0]; rfl)
          refine ⟨kl, _, _, rfl, rfl, (Sd.Same.new ht) _ _ c2, by rw [List.length_map]; exact small1000 (Nat.le_of_lt hbl), ?_⟩
          exact ⟨upd_same' (s2.trans (Sd.Same.new ht)) hkl, hkt, _, _, _, _, _, _, rfl⟩
        · have hmv : mv ≠ .non ∧ ∃ b, mv = .ref b := by
            obtain ⟨g, hh, kk, g1, _⟩ := O.pop hj2 ht hm
            rw [g1] at k3
            obtain ⟨b, rfl, _⟩ := k3
            exact ⟨(fun z => by cases z), b, rfl⟩
          obtain ⟨_, b, rfl⟩ := hmv
          refine ⟨_, rfl, _, rfl, ml, _, _, _, rfl, rfl, SqL.of k1, k2, rfl, _, rfl, ?_⟩
          refine ⟨_, rfl, .inl ⟨rfl, _, SqL.of c2⟩, _, rfl, _, rfl, rl, _, _, _, rfl, rfl, SqL.of h1, h3, _, rfl, rp, _, _, _, rfl, rfl, SqT.of h4, atI_nat (j := 3) rfl, _, rfl, (by show 3 ≤ sizeLine; decide), fun t ht => ?_⟩
          have hkt := key_more (k := Sd.takeKey (Sd.recN recs) (Sd.markN marks) j) (u := .tup [.int (Sd.recN recs j).fin, .int 0, .int ((0 : Int) + (j : Nat))]) p2 c2 ht (by unfold Sd.takeKey; rw [if_neg hm, e0]; rfl)
          refine ⟨kl, _, _, rfl, rfl, (Sd.Same.new ht) _ _ c2, by rw [List.length_map]; exact small1000 (Nat.le_of_lt hbl), ?_⟩
          exact ⟨upd_same' (s2.trans (Sd.Same.new ht)) hkl, hkt, _, _, _, _, _, _, rfl⟩
    · rintro σ H2 ⟨s2, K2, v3, v4, v5, v6, v7, v8, rfl⟩
      rw [ev] at K2
      refine ⟨_, rfl, _, rfl, rl, ml, recs, marks, m, rfl, hR.off s2, hM.off s2, O, fun sq H3 hsq s3 c3 => ?_⟩
      have s13 := s2.trans s3
      obtain ⟨bs2, cK, pK⟩ := K2
      have cK3 := s3 _ _ cK
      have pK3 := pairs_same pK s3
      have hsl : (Sd.seqM recs.length (Sd.recN recs) (Sd.markN marks)).length ≤ 200 := by
        have := (Sd.keys_perm O.tf.toLF).length_eq
        rw [Sd.keys_places, List.length_append, List.length_append, List.length_reverse, List.length_range] at this
        omega
      have hmem : ∀ p ∈ Sd.seqM recs.length (Sd.recN recs) (Sd.markN marks), p < recs.length := fun p hp => ((Sd.mem_seq O.tf.toLF).mp hp).1
      have eL : Sd.lineKeys recs marks = tks recs marks recs.length ++ (Sd.sfx (fun p => (Sd.recN recs p).fin) 0 (Sd.seqM recs.length (Sd.recN recs) (Sd.markN marks))).reverse := rfl
      rw [eL] at q
      generalize Sd.seqM recs.length (Sd.recN recs) (Sd.markN marks) = S at *
      have nsk : sq ≠ kl := (ne_of_none cK hsq).symm
      have sl : (S.map fun i : Nat => V.int (i : Int)).length = S.length := List.length_map ..
      refine ⟨_, rfl, sq, _, rfl, .inl (SqL.of c3), _, rfl, by decide, by decide, by omega, by omega, ?_⟩
      rw [sl]
      have hstep : ∀ (i : Nat), i < S.length → ∃ g : Nat, S[S.length - 1 - i]? = some g ∧ Sd.sfx (fun p => (Sd.recN recs p).fin) (S.length - (i + 1)) (S.drop (S.length - (i + 1))) = ((match Sd.sfx (fun p => (Sd.recN recs p).fin) (S.length - i) (S.drop (S.length - i)) with | [] => (Sd.recN recs g).fin | k :: _ => if k.1 < (Sd.recN recs g).fin then k.1 else (Sd.recN recs g).fin), S.length - 1 - i, g) :: Sd.sfx (fun p => (Sd.recN recs p).fin) (S.length - i) (S.drop (S.length - i)) := fun i hi => by
        have hlt : S.length - 1 - i < S.length := by omega
        refine ⟨S[S.length - 1 - i], List.getElem?_eq_getElem hlt, ?_⟩
        have e1 : S.length - (i + 1) = S.length - 1 - i := by omega
        have e2 : S.length - i = S.length - 1 - i + 1 := by omega
        rw [e1, e2, List.drop_eq_getElem_cons hlt]
        rfl
      refine for_rangeC (fun i σ H' => Same H H' ∧ H' sq = some (.lst (S.map fun i : Nat => V.int (i : Int))) ∧ Sd.KeysAt H' kl (tks recs marks recs.length ++ (Sd.sfx (fun p => (Sd.recN recs p).fin) (S.length - i) (S.drop (S.length - i))).reverse) ∧
          ∃ v3 v4 v7 v8 : Option V, σ = [some (.ref rl), some (.ref ml), some (.ref kl), v3, v4, some (.ref sq), some (match Sd.sfx (fun p => (Sd.recN recs p).fin) (S.length - i) (S.drop (S.length - i)) with | [] => V.non | k :: _ => .int (k.1 : Int)), v7, v8])
        ⟨s13, c3, ⟨bs2, cK3, by rw [Nat.sub_zero, List.drop_eq_nil_of_le (Nat.le_refl _)]; show Paired _ _ (_ ++ []); rw [List.append_nil]; exact pK3⟩, v3, v4, v7, v8, by rw [Nat.sub_zero, List.drop_eq_nil_of_le (Nat.le_refl _)]; rfl⟩ ?_ ?_
      · rintro i σ H' hi ⟨s4, c4, ⟨bs, cB, pB⟩, v3, v4, v7, v8, rfl⟩
        have hi2 : i < S.length := by omega
        obtain ⟨g, hg, hsf⟩ := hstep i hi2
        have hgn := hmem g (List.mem_of_getElem? hg)
        have er : (0 : Int) + ((((S.length : Nat) : Int) - 0).toNat : Nat) - 1 + (i : Nat) * (-1) = ((S.length - 1 - i : Nat) : Int) := by omega
        rw [er]
        obtain ⟨vs2, rp, dp, av, h1, h2, h3, h4, h5, h6⟩ := (hR.off s4).at_ hgn
        have hat : atI (S.map fun i : Nat => V.int (i : Int)) ((S.length - 1 - i : Nat) : Int) = some (.int (g : Int)) := atI_nat (by rw [List.getElem?_map, hg]; rfl)
        refine ⟨_, rfl, _, rfl, _, rfl, sq, _, _, _, rfl, rfl, SqL.of c4, hat, rl, _, _, _, rfl, rfl, SqL.of h1, h3, rp, _, _, _, rfl, rfl, SqT.of h4, atI_nat (j := 3) rfl, ?_⟩
        rw [hsf]
        have hbl : bs.length ≤ 1000 := by
          have h7 := tks_len (recs := recs) (marks := marks) recs.length
          have h8 := Sd.Paired.len pB
          have h9 := congrArg List.length (Sd.sfx_place (fin := fun p => (Sd.recN recs p).fin) (l := S.drop (S.length - i)) (r := S.length - i))
          rw [List.length_map, List.length_drop] at h9
          rw [List.length_append, List.length_reverse, h9] at h8
          omega
        have fin : ∀ (z : Nat), z = (match Sd.sfx (fun p => (Sd.recN recs p).fin) (S.length - i) (S.drop (S.length - i)) with | [] => (Sd.recN recs g).fin | k :: _ => if k.1 < (Sd.recN recs g).fin then k.1 else (Sd.recN recs g).fin) → ∀ (t : Addr) (_ : H' t = none), Same H (upd (upd H' t (.tup [.int (z : Int), .int ((S.length - 1 - i : Nat) : Int), .int (g : Int)])) kl (.lst (bs.map V.ref ++ [.ref t]))) ∧
            (upd (upd H' t (.tup [.int (z : Int), .int ((S.length - 1 - i : Nat) : Int), .int (g : Int)])) kl (.lst (bs.map V.ref ++ [.ref t]))) sq = some (.lst (S.map fun i : Nat => V.int (i : Int))) ∧
            Sd.KeysAt (upd (upd H' t (.tup [.int (z : Int), .int ((S.length - 1 - i : Nat) : Int), .int (g : Int)])) kl (.lst (bs.map V.ref ++ [.ref t]))) kl (tks recs marks recs.length ++ (((match Sd.sfx (fun p => (Sd.recN recs p).fin) (S.length - i) (S.drop (S.length - i)) with | [] => (Sd.recN recs g).fin | k :: _ => if k.1 < (Sd.recN recs g).fin then k.1 else (Sd.recN recs g).fin), S.length - 1 - i, g) :: Sd.sfx (fun p => (Sd.recN recs p).fin) (S.length - i) (S.drop (S.length - i))).reverse) := fun z hz t ht => by
          refine ⟨upd_same' (s4.trans (Sd.Same.new ht)) hkl, (upd_ne nsk).trans ((Sd.Same.new ht) _ _ c4), ?_⟩
          rw [List.reverse_cons, ← List.append_assoc]
          exact key_more pB cB ht (by rw [← hz])
        cases hs : Sd.sfx (fun p => (Sd.recN recs p).fin) (S.length - i) (S.drop (S.length - i)) with
        | nil =>
          rw [hs] at fin
          refine ⟨_, rfl, rfl, _, rfl, _, rfl, ?_⟩
          refine ⟨_, rfl, .inl ⟨rfl, _, SqL.of cB⟩, _, rfl, _, rfl, _, rfl, _, rfl, sq, _, _, _, rfl, rfl, SqL.of c4, hat, (by show 3 ≤ sizeLine; decide), fun t ht => ?_⟩
          obtain ⟨f1, f2, f3⟩ := fin _ rfl t ht
          refine ⟨kl, _, _, rfl, rfl, (Sd.Same.new ht) _ _ cB, by rw [List.length_map]; exact small1000 hbl, f1, f2, f3, _, _, _, _, rfl⟩
        | cons k ks =>
          rw [hs] at fin
          refine ⟨_, rfl, rfl, _, rfl, _, rfl, _, rfl, _, _, rfl, ?_⟩
          obtain ⟨z, hz, hz2⟩ : ∃ z : Nat, z = (if k.1 < (Sd.recN recs g).fin then k.1 else (Sd.recN recs g).fin) ∧ (if ((Sd.recN recs g).fin : Int) < (k.1 : Int) then ((Sd.recN recs g).fin : Int) else (k.1 : Int)) = (z : Int) := ⟨_, rfl, by split <;> split <;> omega⟩
          dsimp only
          rw [hz2]
          refine ⟨_, rfl, .inl ⟨rfl, _, SqL.of cB⟩, _, rfl, _, rfl, _, rfl, _, rfl, sq, _, _, _, rfl, rfl, SqL.of c4, hat, (by show 3 ≤ sizeLine; decide), fun t ht => ?_⟩
          obtain ⟨f1, f2, f3⟩ := fin z hz t ht
          refine ⟨kl, _, _, rfl, rfl, (Sd.Same.new ht) _ _ cB, by rw [List.length_map]; exact small1000 hbl, f1, f2, f3, v3, v4, some (.int ((S.length - 1 - i : Nat) : Int)), some (.int ((Sd.recN recs g).fin : Int)), ?_⟩
          rw [hz]
          rfl
      · rintro σ H4 ⟨s4, c4, K4, v3, v4, v7, v8, rfl⟩
        have e9 : (((S.length : Nat) : Int) - 0).toNat = S.length := by omega
        rw [e9, Nat.sub_self] at K4
        exact ⟨_, rfl, q kl H4 hkl s4 K4⟩
end
section
variable {P : Program} {w : World} {K : PySem.W.Frag} {mg : Str → Option Value} {base : Heap} {A_Boxes A_Hand A_Hall A_HandsError A_NoNumber A_NoBox A_NoHand A_NoDeed A_THING_OF A_WITH_A_NUMBER A_TELLING : Addr} {tT tG tH tD tC tL tV tM : Tok}
abbrev N__moment : List Str := ["begin", "changes", "moment"]
theorem sc__moment : FnScope N__moment ["begin", "changes", "moment"] (defScope s__moment) := ⟨rfl, rfl, rfl, by decide +kernel, rfl, by decide +kernel, by decide +kernel⟩
theorem ok__moment {f : Addr} {fd : FuncData} (F : Fun K "_moment" "_moment" s__moment f fd) (T : (Txt K mg w A_Boxes A_Hand A_Hall A_HandsError A_NoNumber A_NoBox A_NoHand A_NoDeed A_THING_OF A_WITH_A_NUMBER A_TELLING tT tG tH tD tC tL tV tM))
    : FnOk P w K mg base CX0 1 f fd ["begin", "changes", "moment"] (Sd.spMoment) := by
  refine F.ok sc__moment (fun vs H Q E h => ?_) (fun cdv A outer s H vs Q E hr h => ?_)
  · obtain ⟨b, k, cl, cs, rfl, _⟩ := h
    rfl
  · obtain ⟨b, k, cl, cs, rfl, hcl, hk, q⟩ := h
    refine ⟨_, (pss_cons (ps_if (pt_cmpR op_eq (pv 2) pe_int (nomark _))
      (pss_one (ps_ret (pv 0)))
      pss_nil)
      (pss_one (ps_ret (pe_callB (call_max2 rfl) (by rfl) T.max (by decide +kernel) (pa_cons (pv 0) (pa_cons (pe_ix ix_list (pv 1) (pe_op op_sub (pv 2) pe_int) (fun _ _ => rfl)) pa_nil)))))), ?_⟩
    refine ⟨_, rfl, rfl, _, rfl, ?_⟩
    by_cases c : k = 0
    · subst c
      rw [decide_eq_true (show V.int ((0 : Nat) : Int) = V.int 0 from rfl)]
      rw [if_pos rfl] at q
      exact ⟨_, rfl, q⟩
    · have : decide (V.int ((k : Nat) : Int) = V.int 0) = false := decide_eq_false fun z => by
        injection z with z
        omega
      rw [this]
      rw [if_neg c] at q
      have hlt : k - 1 < cs.length := by omega
      have e : ((k : Nat) : Int) - 1 = ((k - 1 : Nat) : Int) := by omega
      have eg : cs.getD (k - 1) 0 = cs[k - 1] := by rw [List.getD_eq_getElem?_getD, List.getElem?_eq_getElem hlt]; rfl
      rw [eg] at q
      refine ⟨_, rfl, _, rfl, _, rfl, _, _, rfl, rfl, cl, _, _, _, rfl, rfl, SqL.of hcl, at_of e (by rw [List.getElem?_map, List.getElem?_eq_getElem hlt]; rfl), _, _, rfl, ?_⟩
      have e2 : (if ((cs[k - 1] : Nat) : Int) > (b : Int) then ((cs[k - 1] : Nat) : Int) else (b : Int)) = ((if cs[k - 1] > b then cs[k - 1] else b : Nat) : Int) := by
        split <;> split <;> omega
      dsimp only
      rw [e2]
      exact q
theorem tells_word (d : Sd.Deed) : inV (.str d.word) (Sd.tell4.map V.str) = d.tells := by
  cases d <;> first | decide +kernel | (show inV (.str "set") _ = false; decide +kernel) | (show inV (.str "add") _ = false; decide +kernel) | (show inV (.str "raise") _ = false; decide +kernel) | (show inV (.str "give") _ = false; decide +kernel)
abbrev N_told_order : List Str := ["records", "marks", "keys", "changes", "place", "hand", "deed", "begin", "end", "answer", "thing", "_", "key"]
theorem sc_told_order : FnScope N_told_order ["records", "marks"] (defScope s_told_order) := ⟨rfl, rfl, rfl, by decide +kernel, rfl, by decide +kernel, by decide +kernel⟩
theorem ok_told_order {f : Addr} {fd : FuncData} (F : Fun K "told_order" "told_order" s_told_order f fd) (T : (Txt K mg w A_Boxes A_Hand A_Hall A_HandsError A_NoNumber A_NoBox A_NoHand A_NoDeed A_THING_OF A_WITH_A_NUMBER A_TELLING tT tG tH tD tC tL tV tM))
    (C__line_keys : Sd.Cal P w K mg base CX0 2 "_line_keys" ["records", "marks"] (Sd.spLineKeys))
    (C__moment : Sd.Cal P w K mg base CX0 1 "_moment" ["begin", "changes", "moment"] (Sd.spMoment))
    : FnOk P w K mg base CX0 3 f fd ["records", "marks"] (Sd.spTold) := by
  refine F.ok sc_told_order (fun vs H Q E h => ?_) (fun cdv A outer s H vs Q E hr h => ?_)
  · obtain ⟨rl, ml, recs, marks, m, rfl, _⟩ := h
    rfl
  · obtain ⟨rl, ml, recs, marks, m, rfl, hR, hM, O, q⟩ := h
    refine ⟨_, (pss_cons (ps_set (i := 2) sc_told_order.nd rfl (Or.inl rfl) (Sd.pe_fn C__line_keys (hr.mono (by decide)) pass0 (pa_cons (pv 0) (pa_cons (pv 1) pa_nil))))
      (pss_cons (ps_setLc (i := 3) (own := [("_", 11)]) (g := gName 11) (by rfl) sc_told_order.nd rfl rfl (sw_true rfl rfl rfl (by decide +kernel)) (pi_range1 rfl T.range (pa_cons (pe_glob (v := .int 5) rfl T.m_THINGS ⟨_, rfl⟩) pa_nil)) (blkOk_by (own := [("_", 11)]) (N := N_told_order) (sc := defScope s_told_order) (by decide +kernel)) (fun _ _ _ _ _ => pg_name (i := 11) sc_told_order.nd rfl (Or.inl rfl)) (fun _ _ _ _ _ => pts_nil) (fun _ _ _ _ _ => (pe_lst pa_nil)))
      (pss_cons (ps_for PassesOwn.never rfl (pi_range1 rfl T.range (pa_cons (pe_callB call_len_seq (by rfl) T.len (by decide +kernel) (pa_cons (pv 0) pa_nil)) pa_nil)) (pg_name (i := 4) sc_told_order.nd rfl (Or.inl rfl))
      (pss_cons (ps_asg (pe_ix ix_list (pv 0) (pv 4) (fun _ _ => rfl)) (pg_tup (by rfl) (pgs_cons (pg_name (i := 5) sc_told_order.nd rfl (Or.inl rfl)) (pgs_cons (pg_name (i := 6) sc_told_order.nd rfl (Or.inl rfl)) (pgs_cons (pg_name (i := 7) sc_told_order.nd rfl (Or.inl rfl)) (pgs_cons (pg_name (i := 8) sc_told_order.nd rfl (Or.inl rfl)) (pgs_cons (pg_name (i := 9) sc_told_order.nd rfl (Or.inl rfl)) pgs_nil)))))))
      (pss_cons (ps_set (i := 10) sc_told_order.nd rfl (Or.inl rfl) (pe_ix (ix_kdict) (pe_glob (v := .ref A_THING_OF) rfl T.k_THING_OF.m rfl) (pe_ix ix_tup (pv 6) pe_int (fun _ _ => rfl)) (fun _ _ => rfl)))
      (pss_one (ps_if (pt_cmpR op_in_seq (pe_ix ix_tup (pv 6) pe_int (fun _ _ => rfl)) (pe_glob (v := .ref A_TELLING) rfl T.k_TELLING.m rfl) (by rfl))
      (pss_one (ps_expr (pe_bm PySem.F.plainAttrs_list PySem.F.slot_list_append PySem.F.type_list_append mt_append (pv 2) (pa_cons (pe_tup (pa_cons (Sd.pe_fn C__moment (hr.mono (by decide)) pass0 (pa_cons (pv 7) (pa_cons (pe_ix ix_list (pv 3) (pv 10) (fun _ _ => rfl)) (pa_cons (pe_ix ix_list (pv 1) (pv 4) (fun _ _ => rfl)) pa_nil)))) (pa_cons pe_int (pa_cons (pv 4) pa_nil)))) pa_nil))))
      (pss_one (ps_if (pt_cmpR op_ne (pv 10) (pe_glob (v := .int 4) rfl T.m_LINE ⟨_, rfl⟩) (nomark _))
      (pss_cons (ps_expr (pe_bm PySem.F.plainAttrs_list PySem.F.slot_list_append PySem.F.type_list_append mt_append (pe_ix ix_list (pv 3) (pv 10) (fun _ _ => rfl)) (pa_cons (pv 8) pa_nil)))
      (pss_one (ps_expr (pe_bm PySem.F.plainAttrs_list PySem.F.slot_list_append PySem.F.type_list_append mt_append (pv 2) (pa_cons (pe_tup (pa_cons (pv 8) (pa_cons pe_int (pa_cons (pv 4) pa_nil)))) pa_nil)))))
      pss_nil)))))))
      (pss_one (ps_ret (pe_lc (own := [("key", 12)]) (g := gName 12) (by rfl) sc_told_order.nd (pi_list (pe_callB (Sd.cr_sortT hr.units) (by rfl) T.sorted (by decide +kernel) (pa_cons (pv 2) pa_nil))) (blkOk_by (own := [("key", 12)]) (N := N_told_order) (sc := defScope s_told_order) (by decide +kernel)) (fun _ _ _ _ _ => pg_name (i := 12) sc_told_order.nd rfl (Or.inl rfl)) (fun _ _ _ _ _ => pts_nil) (fun _ _ _ _ _ => (pe_ix (Sd.ixK (K := K) (r := rIxT) ix_tup rfl) (pv 12) pe_int (fun _ _ => rfl))))))))), ?_⟩
    obtain ⟨vs, hrl, hvl⟩ := hR.len
    have hn200 := O.n
    have hml := O.len
    refine ⟨_, rfl, _, rfl, rl, ml, recs, marks, m, rfl, hR, hM, O, fun kl H1 hkl s1 K1 => ?_⟩
    -- five lists
    refine ⟨_, rfl, by decide, by decide, fun D hD => ?_⟩
    refine lc_range (lo := 0) (n := ((5 : Int)).toNat) (fun i H' => Same H1 H' ∧ ∃ ls : List Addr, ls.length = i ∧ H' D = some (.lst (ls.map V.ref)) ∧ (∀ l ∈ ls, H' l = some (.lst []) ∧ H1 l = none) ∧ ls.Nodup ∧ D ∉ ls)
      ⟨Sd.Same.new hD, [], rfl, upd_same, (fun _ h => nomatch h), .nil, (fun h => nomatch h)⟩ ?_ ?_
    · rintro i H' hi ⟨s2, ls, hl, hDl, hls, hnd, hDn⟩
      refine ⟨rfl, (by show 0 ≤ sizeLine; decide), fun l hlf => ?_⟩
      have s3 := Sd.Same.new (o := .lst []) hlf
      have nlD : l ≠ D := (ne_of_none hDl hlf).symm
      have hi5 : i < 5 := by omega
      refine ⟨_, s3 _ _ hDl, by rw [List.length_map, hl]; exact Nat.lt_of_lt_of_le hi5 (by decide), upd_same' (s2.trans s3) hD, ls ++ [l], by rw [List.length_append, hl]; rfl, by rw [upd_same, List.map_append]; rfl, fun x hx => ?_, ?_, ?_⟩
      · have hxD : x ≠ D := fun z => by
          rcases List.mem_append.mp hx with hx | hx
          · exact hDn (z ▸ hx)
          · exact nlD ((List.mem_singleton.mp hx).symm.trans z)
        rw [upd_ne hxD]
        rcases List.mem_append.mp hx with hx | hx
        · exact ⟨s3 _ _ (hls x hx).1, (hls x hx).2⟩
        · rw [List.mem_singleton.mp hx]
          exact ⟨upd_same, s2.free hlf⟩
      · refine List.nodup_append.mpr ⟨hnd, by simp, fun a ha b hb z => ?_⟩
        rw [List.mem_singleton.mp hb] at z
        subst z
        rw [(hls a ha).1] at hlf
        cases hlf
      · intro hm
        rcases List.mem_append.mp hm with hm | hm
        · exact hDn hm
        · exact nlD (List.mem_singleton.mp hm).symm
    rintro H2 ⟨s2, ls, hll, hDl, hls, hnd, hDn⟩
    have s12 := s1.trans s2
    have fD : H D = none := s1.free hD
    obtain ⟨bs0, cK, pK⟩ := K1
    have cK2 := s2 _ _ cK
    have pK2 := pairs_same pK s2
    have nDk : D ≠ kl := (ne_of_none cK hD).symm
    have nlk : ∀ l ∈ ls, l ≠ kl := fun l hl z => by
      have h := (hls l hl).2
      rw [z, cK] at h
      cases h
    have fl : ∀ l ∈ ls, H l = none := fun l hl => s1.free (hls l hl).2
    have hll5 : ls.length = 5 := hll
    refine ⟨_, rfl, rl, _, rfl, .inl (SqL.of (s12 _ _ hrl)), _, rfl, by omega, by omega, ?_⟩
    have ev : ((vs.length : Nat) : Int).toNat = recs.length := by omega
    refine for_range (lo := 0) (n := ((vs.length : Nat) : Int).toNat) (fun j σ H' => Same H H' ∧ Sd.KeysAt H' kl (Sd.lineKeys recs marks ++ Sd.oths recs marks j) ∧ H' D = some (.lst (ls.map V.ref)) ∧ (∀ (t : Nat) (l : Addr), t ≠ 4 → ls[t]? = some l → H' l = some (.lst ((Sd.changes (Sd.recN recs) t j).map fun i : Nat => V.int (i : Int)))) ∧
        ∃ v4 v5 v6 v7 v8 v9 v10 v11 v12 : Option V, σ = [some (.ref rl), some (.ref ml), some (.ref kl), some (.ref D), v4, v5, v6, v7, v8, v9, v10, v11, v12])
      ⟨s12, ⟨bs0, cK2, by show Paired _ _ (_ ++ []); rw [List.append_nil]; exact pK2⟩, hDl, fun t l _ hl => (hls l (List.mem_of_getElem? hl)).1, none, none, none, none, none, none, none, none, none, rfl⟩ ?_ ?_
    · rintro j σ H' hj ⟨s3, ⟨bs, cB, pB⟩, cD, cL, v4, v5, v6, v7, v8, v9, v10, v11, v12, rfl⟩
      have hj2 : j < recs.length := by omega
      have e0 : (0 : Int) + (j : Nat) = ((j : Nat) : Int) := Int.zero_add _
      obtain ⟨vs2, rp, dp, av, h1, h2, h3, h4, h5, h6⟩ := (hR.off s3).at_ hj2
      obtain ⟨vm, mv, k1, k2, k3⟩ := (hM.off s3).at_ (p := j) (by omega)
      rw [← e0] at h3 k2
      refine ⟨_, rfl, _, rfl, rl, _, _, _, rfl, rfl, SqL.of h1, h3, rp, _, rfl, SqT.of h4, rfl, _, _, rfl, _, _, rfl, _, _, rfl, _, _, rfl, _, _, rfl, rfl, ?_⟩
      refine ⟨_, rfl, dp, _, _, _, rfl, rfl, SqT.of h5, (Sd.recN recs j).deed.at0, A_THING_OF, _, _, rfl, rfl, T.k_THING_OF.get (Sd.recN recs j).deed.kv, ?_⟩
      refine ⟨_, rfl, dp, _, _, _, rfl, rfl, SqT.of h5, (Sd.recN recs j).deed.at0, A_TELLING, _, rfl, .inr (T.k_TELLING.at_ _), rfl, rfl, _, rfl, ?_⟩
      rw [tells_word, Sd.oths_succ]
      have hbl : bs.length ≤ 1000 := by
        have a1 := Sd.lineKeys_len O
        have a2 := Sd.oths_len (recs := recs) (marks := marks) j
        have a3 := Sd.Paired.len pB
        have a4 : (Sd.lineKeys recs marks).length ≤ 200 := a1
        rw [List.length_append] at a3
        omega
      have ht5 : (Sd.recN recs j).deed.thing < ls.length := by rw [hll5]; exact Nat.lt_succ_of_le (Sd.Deed.thing_le _)
      have hlt := List.getElem?_eq_getElem ht5
      generalize ls[(Sd.recN recs j).deed.thing] = l at hlt
      have hat : atI (ls.map V.ref) (((Sd.recN recs j).deed.thing : Nat) : Int) = some (.ref l) := atI_nat (by rw [List.getElem?_map, hlt]; rfl)
      have hlm := List.mem_of_getElem? hlt
      cases ht : (Sd.recN recs j).deed.tells with
      | true =>
        have hth : (Sd.recN recs j).deed.thing ≠ 4 := fun z => by
          rcases Sd.line_thing z with z | z
          · rw [(Sd.give_thing z).2.2.2] at ht; cases ht
          · rw [(Sd.take_thing z).2.2.2] at ht; cases ht
        obtain ⟨k, hk1, hk2, hk3⟩ := O.mom hj2 ht
        rw [hk1] at k3
        cases (show mv = .int (k : Int) from k3)
        have cl := cL _ l hth hlt
        refine ⟨_, rfl, .inl ⟨rfl, _, SqL.of cB⟩, _, rfl, _, rfl, _, rfl, D, _, _, _, rfl, rfl, SqL.of cD, hat, _, rfl, _, rfl, ml, _, _, _, rfl, rfl, SqL.of k1, k2, (Sd.recN recs j).beg, k, l, _, rfl, cl, hk2, ?_⟩
        rw [← hk3]
        refine ⟨_, rfl, (by show 3 ≤ sizeLine; decide), fun t htf => ?_⟩
        rw [if_pos hth, ← List.append_assoc]
        have hkt := key_more (k := Sd.otherKey (Sd.recN recs) (Sd.markN marks) j) (u := .tup [.int ((Sd.moment (Sd.recN recs) (Sd.markN marks) j : Nat) : Int), .int 1, .int ((0 : Int) + (j : Nat))]) pB cB htf (by unfold Sd.otherKey; rw [if_pos ht, e0]; rfl)
        refine ⟨kl, _, _, rfl, rfl, (Sd.Same.new htf) _ _ cB, by rw [List.length_map]; exact small1000 hbl, ?_⟩
        refine ⟨upd_same' (s3.trans (Sd.Same.new htf)) hkl, hkt, (upd_ne nDk).trans ((Sd.Same.new htf) _ _ cD), fun t' l' h4 hl' => ?_, _, _, _, _, _, _, _, _, _, rfl⟩
        rw [upd_ne (nlk l' (List.mem_of_getElem? hl')), Sd.chg_succ, if_neg]
        · exact (Sd.Same.new htf) _ _ (cL t' l' h4 hl')
        · unfold Sd.isChg
          rw [Sd.not_puts (.inl ht)]
          exact Bool.false_ne_true
      | false =>
        refine ⟨_, rfl, rfl, _, rfl, ?_⟩
        have e4 : decide (V.int (((Sd.recN recs j).deed.thing : Nat) : Int) = V.int 4) = decide ((Sd.recN recs j).deed.thing = 4) := decide_eq_decide.mpr ⟨fun z => by injection z with z; omega, fun z => by rw [z]; rfl⟩
        rw [e4]
        by_cases hth : (Sd.recN recs j).deed.thing = 4
        · rw [decide_eq_true hth, if_neg (fun z => z hth)]
          refine ⟨s3, ⟨bs, cB, pB⟩, cD, fun t' l' h4' hl' => ?_, _, _, _, _, _, _, _, _, _, rfl⟩
          rw [Sd.chg_succ, if_neg]
          · exact cL t' l' h4' hl'
          · unfold Sd.isChg
            rw [hth, beq_eq_false_iff_ne.mpr (Ne.symm h4'), Bool.and_false]
            exact Bool.false_ne_true
        · rw [decide_eq_false hth, if_pos hth]
          have cl := cL _ l hth hlt
          have hp : (Sd.recN recs j).deed.puts = true := Sd.puts_of ht fun z => hth (by rw [z]; rfl)
          have hcl : (Sd.changes (Sd.recN recs) (Sd.recN recs j).deed.thing j).length ≤ 1000 := by
            unfold Sd.changes
            rw [List.length_map]
            have := List.length_filter_le (fun q => Sd.isChg (Sd.recN recs j).deed.thing (Sd.recN recs q)) (List.range j)
            rw [List.length_range] at this
            omega
          refine ⟨_, rfl, _, rfl, D, _, _, _, rfl, rfl, SqL.of cD, hat, .inl ⟨rfl, _, SqL.of cl⟩, _, rfl, l, _, _, rfl, rfl, cl, by rw [List.length_map]; exact small1000 hcl, ?_⟩
          have s4 : Same H (upd H' l (.lst (((Sd.changes (Sd.recN recs) (Sd.recN recs j).deed.thing j).map fun i : Nat => V.int (i : Int)) ++ [V.int ((Sd.recN recs j).fin : Nat)]))) := upd_same' s3 (fl l hlm)
          have u4 : ∀ y, y ≠ l → upd H' l (.lst (((Sd.changes (Sd.recN recs) (Sd.recN recs j).deed.thing j).map fun i : Nat => V.int (i : Int)) ++ [V.int ((Sd.recN recs j).fin : Nat)])) y = H' y := fun y n => upd_ne n
          have c4 : upd H' l (.lst (((Sd.changes (Sd.recN recs) (Sd.recN recs j).deed.thing j).map fun i : Nat => V.int (i : Int)) ++ [V.int ((Sd.recN recs j).fin : Nat)])) l = _ := upd_same
          have p4 := pairs_upd (o := .lst (((Sd.changes (Sd.recN recs) (Sd.recN recs j).deed.thing j).map fun i : Nat => V.int (i : Int)) ++ [V.int ((Sd.recN recs j).fin : Nat)])) pB cl
          generalize upd H' l (.lst (((Sd.changes (Sd.recN recs) (Sd.recN recs j).deed.thing j).map fun i : Nat => V.int (i : Int)) ++ [V.int ((Sd.recN recs j).fin : Nat)])) = H4 at s4 u4 c4 p4 ⊢
          have nkl := nlk l hlm
          have cB4 := (u4 kl (Ne.symm nkl)).trans cB
          have nDl : D ≠ l := fun z => hDn (z ▸ hlm)
          have cD4 := (u4 D nDl).trans cD
          refine ⟨_, rfl, .inl ⟨rfl, _, SqL.of cB4⟩, _, rfl, _, rfl, (by show 3 ≤ sizeLine; decide), fun t htf => ?_⟩
          rw [← List.append_assoc]
          have hkt := key_more (k := Sd.otherKey (Sd.recN recs) (Sd.markN marks) j) (u := .tup [.int ((Sd.recN recs j).fin : Nat), .int 0, .int ((0 : Int) + (j : Nat))]) p4 cB4 htf (by unfold Sd.otherKey; rw [if_neg (by rw [ht]; exact Bool.false_ne_true), e0]; rfl)
          refine ⟨kl, _, _, rfl, rfl, (Sd.Same.new htf) _ _ cB4, by rw [List.length_map]; exact small1000 hbl, ?_⟩
          refine ⟨upd_same' (s4.trans (Sd.Same.new htf)) hkl, hkt, (upd_ne nDk).trans ((Sd.Same.new htf) _ _ cD4), fun t' l' h4' hl' => ?_, _, _, _, _, _, _, _, _, _, rfl⟩
          rw [upd_ne (nlk l' (List.mem_of_getElem? hl')), Sd.chg_succ, Sd.puts_chg rfl hp]
          by_cases ct : t' = (Sd.recN recs j).deed.thing
          · subst ct
            rw [hlt] at hl'
            cases hl'
            rw [if_pos (decide_eq_true rfl), List.map_append]
            exact (Sd.Same.new htf) _ _ c4
          · rw [if_neg (by rw [decide_eq_false ct]; exact Bool.false_ne_true)]
            have nll : l' ≠ l := fun z => ct (Sd.nodup_at hnd hl' (z ▸ hlt))
            exact (Sd.Same.new htf) _ _ ((u4 l' nll).trans (cL t' l' h4' hl'))
    · rintro σ H3 ⟨s3, ⟨bs, cB, pB⟩, cD, cL, v4, v5, v6, v7, v8, v9, v10, v11, v12, rfl⟩
      rw [ev] at pB
      have eK : Sd.lineKeys recs marks ++ Sd.oths recs marks recs.length = Sd.keysM recs.length (Sd.recN recs) (Sd.markN marks) := rfl
      rw [eK] at pB
      have hkn : (Sd.keysM recs.length (Sd.recN recs) (Sd.markN marks)).length = recs.length := by
        have := (Sd.keys_perm O.tf.toLF).length_eq
        rw [List.length_map, List.length_range] at this
        exact this
      obtain ⟨bt, b1, b2, b3, b4, ks, e1, e2, e3⟩ := Sd.keys_sorted pB
      have hmem : ∀ b ∈ bt.mergeSort Sd.leT, b ∈ bt := fun b hb => (List.mergeSort_perm bt Sd.leT).mem_iff.mp hb
      refine ⟨_, rfl, kl, bt, rfl, SqL.of (by rw [b1]; exact cB), fun b hb => SqT.of (b2 b hb), b3, by rw [b4, hkn]; omega, fun sp hsp => ?_⟩
      generalize bt.mergeSort Sd.leT = st at *
      have s4 := Sd.Same.new (o := .lst (st.map fun b => V.ref b.1)) hsp
      have c4 : upd H3 sp (.lst (st.map fun b => V.ref b.1)) sp = some (.lst (st.map fun b => V.ref b.1)) := upd_same
      generalize upd H3 sp (.lst (st.map fun b => V.ref b.1)) = H4 at s4 c4 ⊢
      have hstl : st.length = ks.length := by
        have := congrArg List.length e3
        rw [List.length_map, List.length_map] at this
        exact this
      have hksl : ks.length = recs.length := by rw [e1.length_eq, hkn]
      refine ⟨sp, rfl, ⟨_, SqL.of c4⟩, fun E5 hE5 => ?_⟩
      have s34 := s3.trans s4
      refine lc_list (K := K) (xs := st.map fun b => V.ref b.1) (fun k H' => Same H4 H' ∧ H' E5 = some (.lst ((ks.take k).map fun k => V.int ((Sd.pk k : Nat) : Int)))) ⟨Sd.Same.new hE5, upd_same⟩ (fun k H' _ h => SqL.of (h.1 _ _ c4)) ?_ ?_
      · rintro k x H' hx ⟨s5, c5⟩
        rw [List.getElem?_map] at hx
        obtain ⟨b, hb, rfl⟩ := Option.map_eq_some_iff.mp hx
        have hkl2 := (List.getElem?_eq_some_iff.mp hb).1
        have hkk : ks[k]? = some (ks[k]'(by omega)) := List.getElem?_eq_getElem _
        have eb : b.2 = Sd.klist (ks[k]'(by omega)) := by
          have := congrArg (·[k]?) e3
          rw [List.getElem?_map, List.getElem?_map, hb, hkk] at this
          exact Option.some.inj this
        have htk : ks.take (k + 1) = ks.take k ++ [ks[k]'(by omega)] := List.take_succ_eq_append_getElem (by omega)
        generalize ks[k]'(by omega) = key at *
        have hb2 := s5 _ _ (s4 _ _ (b2 b (hmem b (List.mem_of_getElem? hb))))
        rw [eb] at hb2
        refine ⟨rfl, _, rfl, b.1, _, _, _, rfl, rfl, SqT.of hb2, atI_nat (j := 2) rfl, ?_⟩
        refine ⟨_, c5, ?_, upd_same' s5 hE5, ?_⟩
        · rw [List.length_map, List.length_take]
          exact small1000 (by omega)
        · rw [upd_same, htk, List.map_append]
          rfl
      · rintro H5 ⟨s5, c5⟩
        rw [List.length_map, hstl, List.take_length] at c5
        exact q E5 H5 ks (s34.free hE5) (s34.trans s5) e1 e2 c5
abbrev N_Hall_order : List Str := ["self"]
theorem sc_Hall_order : FnScope N_Hall_order ["self"] (defScope s_Hall_order) := ⟨rfl, rfl, rfl, by decide +kernel, rfl, by decide +kernel, by decide +kernel⟩
theorem ok_Hall_order {f : Addr} {fd : FuncData} (F : Fun K "order" "Hall.order" s_Hall_order f fd) (T : (Txt K mg w A_Boxes A_Hand A_Hall A_HandsError A_NoNumber A_NoBox A_NoHand A_NoDeed A_THING_OF A_WITH_A_NUMBER A_TELLING tT tG tH tD tC tL tV tM))
    (C_told_order : Sd.Cal P w K mg base CX0 3 "told_order" ["records", "marks"] (Sd.spTold))
    : FnOk P w K mg base CX0 4 f fd ["self"] (Sd.spOrder A_Boxes A_Hand A_Hall) := by
  refine F.ok sc_Hall_order (fun vs H Q E h => ?_) (fun cdv A outer s H vs Q E hr h => ?_)
  · obtain ⟨g, s, G, rfl, _⟩ := h
    rfl
  · obtain ⟨g, s, G, rfl, hA, I, q⟩ := h
    refine ⟨_, (pss_one (ps_ret (Sd.pe_fn C_told_order (hr.mono (by decide)) pass0 (pa_cons (pe_fld (pv 0) rfl) (pa_cons (pe_fld (pv 0) rfl) pa_nil))))), ?_⟩
    obtain ⟨dx, hob⟩ := hA.ob
    refine ⟨_, rfl, g.ha, A_Hall, dx, _, _, rfl, hob, T.cl_Hall, T.n_Hall__records, rfl, _, rfl, g.ha, A_Hall, dx, _, _, rfl, hob, T.cl_Hall, T.n_Hall__marks, rfl, g.rc, g.mr, s.recs, s.marks, s.many, rfl, hA.rc, hA.mr, I.ordIn, fun p H' ks hp s' h1 h2 h3 => ?_⟩
    refine q p H' (ks.map fun k => ((Sd.pk k : Nat) : Int)) hp s' (I.order h1 h2) ⟨ks, h1, h2, rfl⟩ ?_
    rw [h3, List.map_map]
    rfl
end

--@@CUT2
section
variable {P : Program} {w : World} {K : PySem.W.Frag} {mg : Str → Option Value} {base : Heap} {A_Boxes A_Hand A_Hall A_HandsError A_NoNumber A_NoBox A_NoHand A_NoDeed A_THING_OF A_WITH_A_NUMBER A_TELLING : Addr} {tT tG tH tD tC tL tV tM : Tok}
abbrev N_l_words : List Str := []
theorem sc_l_words : FnScope N_l_words [] (defScope s_l_words) := ⟨rfl, rfl, rfl, by decide +kernel, rfl, by decide +kernel, by decide +kernel⟩
theorem ok_l_words {f : Addr} {fd : FuncData} (F : Fun K "_law_words" "_law_words" s_l_words f fd) (T : (Txt K mg w A_Boxes A_Hand A_Hall A_HandsError A_NoNumber A_NoBox A_NoHand A_NoDeed A_THING_OF A_WITH_A_NUMBER A_TELLING tT tG tH tD tC tL tV tM))
    : FnOk P w K mg base CX0 1 f fd [] (Sd.spWords) := by
  refine F.ok sc_l_words (fun vs H Q E h => ?_) (fun cdv A outer s H vs Q E hr h => ?_)
  · obtain ⟨rfl, _⟩ := h
    rfl
  · obtain ⟨rfl, q⟩ := h
    refine ⟨_, (pss_one (ps_ret (pe_lst (pa_cons pe_str (pa_cons pe_str (pa_cons pe_str (pa_cons pe_str (pa_cons pe_str (pa_cons pe_str (pa_cons pe_str (pa_cons pe_str (pa_cons pe_str (pa_cons pe_str pa_nil))))))))))))), ?_⟩
    exact ⟨(by show 10 ≤ sizeLine; decide), fun p hp => q p _ hp (Sd.Same.new hp) upd_same⟩
end

--@@CUT3
end K07
namespace Sd
open PySem L2
theorem takes_len {X : Cx} {W : WX} (t : Takes X W) : Takes X (fun c d σ H => σ.length = X.N.length → W c d σ H) := fun u s' ⟨a, B, sI, pins, σ, H, cls, d, e, I, nb, up, sky, na, os, ag, w⟩ =>
  t u s' ⟨a, B, sI, pins, σ, H, cls, d, e, I, nb, up, sky, na, os, ag, w I.len⟩
/-- what the try makes of the lambda's reading: NoHand raised, or nothing -/
def TTref (NH : Addr) : (XK → Hp → VK → Prop) → Hp → VK → Prop := fun tl H Q => tl (fun cls d H' => cls = .ref NH ∧ d = none ∧ ∀ H'', Same H' H'' → Q (.bl true) H'') H (fun _ H' => Q (.bl false) H')
end Sd
namespace K07
open PySem L2
abbrev N_l_refused : List Str := ["_law_work", "e"]
theorem sc_l_refused : FnScope N_l_refused ["_law_work"] (defScope s_l_refused) := ⟨rfl, rfl, rfl, by decide +kernel, rfl, by decide +kernel, by decide +kernel⟩
theorem gives_refused {X : Cx} {q : Str} {g : Addr} {cdg : Value} {A_Boxes A_Hand A_Hall A_HandsError A_NoNumber A_NoBox A_NoHand A_NoDeed A_THING_OF A_WITH_A_NUMBER A_TELLING : Addr} {tT tG tH tD tC tL tV tM : Tok} (T : Txt X.K X.mg X.w A_Boxes A_Hand A_Hall A_HandsError A_NoNumber A_NoBox A_NoHand A_NoDeed A_THING_OF A_WITH_A_NUMBER A_TELLING tT tG tH tD tC tL tV tM) :
    LamX.GivesTo X N_l_refused "_law_refused" (defScope s_l_refused) g cdg (defBody s_l_refused) "_law_work" q (Sd.TTref A_NoHand) := by
  intro f c' s H Q tl act hc h
  refine ⟨_, (pss_cons (ps_try_as (X := (cxOf C8.CX0 X.prog X.w X.K X.mg X.base N_l_refused "_law_refused" (defScope s_l_refused) g cdg X.A X.stack s H C8.E0).nox) (i := 1) (Wout := fun _ _ _ _ => False)
      (tb := fun W D σ H => ∃ Ech : XK, (∀ cls d σ' H', Ech cls d H' → σ'.length = 2 → W cls d σ' H') ∧ σ[0]? = some (some (.ref f)) ∧ H c' = some (LamX.CodeO c' q) ∧ tl Ech H (fun _ H' => D.nx σ H')) rfl rfl sc_l_refused.nd rfl rfl ⟨rfl, by decide, .inl T.m_HandsError⟩ takes0 (fun W pn xe tk _ => ?_)
      (fun a oe cls d pn hz hf => (pss_one (ps_ret (pe_and (pe_callB (Sd.call_isX hz hf) (by rfl) T.isinstance (by decide +kernel) (pa_cons (pv 1) (pa_cons (pe_glob (v := .ref A_NoHand) rfl T.m_NoHand rfl) pa_nil))) (pe_and (pe_callB (Sd.call_isX hz hf) (by rfl) T.isinstance (by decide +kernel) (pa_cons (pv 1) (pa_cons (pe_bltn (v := .ty "ValueError") (u := .type "ValueError") (by rfl) T.ValueError (by decide +kernel) rfl) pa_nil))) (pe_one (pe_not (pe_callB (Sd.call_isXT hz hf) (by rfl) T.isinstance (by decide +kernel) (pa_cons (pv 1) (pa_cons (pe_tup (pa_cons (pe_glob (v := .ref A_NoBox) rfl T.m_NoBox rfl) (pa_cons (pe_glob (v := .ref A_NoNumber) rfl T.m_NoNumber rfl) (pa_cons (pe_glob (v := .ref A_NoDeed) rfl T.m_NoDeed rfl) pa_nil)))) pa_nil)))))))))))
      (pss_one (ps_ret pe_bl))), ?_⟩
  · refine ⟨fun pins s' σ H' D I h' => ?_⟩
    obtain ⟨Ech, hW, h1, h2, h3⟩ := h'
    exact (pss_one (ps_expr (act (fun c d σ H => σ.length = 2 → W c d σ H) pn xe Ech _ _ (Sd.takes_len tk) hW))).run pins s' σ H' D I ⟨h1, h2, h3⟩
  · have h0 : (L2.start N_l_refused [V.ref f])[0]? = some (some (V.ref f)) := rfl
    refine ⟨_, fun cls d σ' H' hE hl => ?_, h0, hc, h⟩
    obtain ⟨rfl, rfl, q'⟩ := hE
    have hs1 : ∀ v : V, (σ'.set 1 (some v))[1]? = some (some v) := fun v => List.getElem?_set_self (by omega)
    refine ⟨true, T.r_NoHand.caught, fun _ e he => ?_, fun z => nomatch z⟩
    refine ⟨_, hs1 _, _, _, _, true, rfl, rfl, rfl, T.r_NoHand.ec, .own _, T.r_NoHand.me, true, rfl, ?_⟩
    refine ⟨_, hs1 _, _, _, _, true, rfl, rfl, rfl, T.r_NoHand.ec, .ty _, T.r_NoHand.ve, true, rfl, ?_⟩
    refine ⟨_, hs1 _, (by show 3 ≤ sizeLine; decide), fun tp htp => ?_⟩
    exact ⟨_, tp, _, _, false, rfl, rfl, rfl, T.r_NoHand.ec, upd_same, Sd.clsAll [A_NoBox, A_NoNumber, A_NoDeed], Sd.Ref.none (S := A_HandsError) T.r_NoHand.no, false, rfl, q' _ (Sd.Same.new htp)⟩
section
variable {P : Program} {w : World} {K : PySem.W.Frag} {mg : Str → Option Value} {base : Heap} {A_Boxes A_Hand A_Hall A_HandsError A_NoNumber A_NoBox A_NoHand A_NoDeed A_THING_OF A_WITH_A_NUMBER A_TELLING : Addr} {tT tG tH tD tC tL tV tM : Tok}
abbrev N_law : List Str := ["_law_script", "_law_many", "_law_d", "_law_words_here", "_law_plans_here", "_law_handed", "_law_hall", "_law_plan", "_law_far", "_law_row", "_law_at", "_law_hand", "_law_k", "_law_record"]
theorem sc_law : FnScope N_law ["_law_script"] (defScope s_law) := ⟨rfl, rfl, rfl, by decide +kernel, rfl, by decide +kernel, by decide +kernel⟩
def spLawT (K : PySem.W.Frag) (Pt : Addr) : Sp := fun vs H Q _ => ∃ (a : Addr) (ns : List Int), vs = [.ref a] ∧ SqL K H a (ns.map V.int) ∧ ns.length ≤ 63 ∧ H Pt = some (.tbl #[]) ∧ ∀ H', Q (.bl true) H'
abbrev kLam : Nat := 12
theorem ok_law {f : Addr} {fd : FuncData} {c Pt gr : Addr} {fdr : FuncData} (F : Fun K "law" "law" s_law f fd) (T : Txt K mg w A_Boxes A_Hand A_Hall A_HandsError A_NoNumber A_NoBox A_NoHand A_NoDeed A_THING_OF A_WITH_A_NUMBER A_TELLING tT tG tH tD tC tL tV tM)
    (C_l_cell : Sd.Cal P w K mg base CX0 1 "_law_cell" ["_law_script", "_law_k"] (Sd.spCell K))
    (C_l_dice : Sd.Cal P w K mg base CX0 2 "_law_dice" ["_law_script", "_law_k"] (Sd.spDice K))
    (C_l_off : Sd.Cal P w K mg base CX0 2 "_law_off" ["_law_d", "_law_most"] (Sd.spOff K))
    (C_l_words : Sd.Cal P w K mg base CX0 1 "_law_words" [] (Sd.spWords))
    (C_l_plans : Sd.Cal P w K mg base CX0 4 "_law_plans" ["_law_d", "_law_many", "_law_words_here", "_law_most"] (Sd.spPlans K))
    (C_Hall : Sd.CalI P w K mg base (L2.CX P w) 4 "Hall" A_Hall ["self", "plans"] (Sd.spHallInit A_Boxes A_Hand A_Hall A_NoHand A_NoDeed))
    (C_Hall_step : Sd.CalM P w K mg base (L2.CX P w) 8 A_Hall "step" ["self", "hand"] (Sd.spHallStepE A_Boxes A_Hand A_Hall A_NoHand))
    (C_Hall_steps_of : Sd.CalM P w K mg base (L2.CX P w) 2 A_Hall "steps_of" ["self", "hand"] (Sd.spStepsOfE A_Boxes A_Hand A_Hall A_NoHand))
    (C_Hall_weave : Sd.CalM P w K mg base (L2.CX P w) 9 A_Hall "weave" ["self", "row"] (Sd.spWeaveE K A_Boxes A_Hand A_Hall A_NoHand))
    (C_Hall_records : Sd.CalM P w K mg base CX0 1 A_Hall "records" ["self"] (Sd.spRecords A_Boxes A_Hand A_Hall))
    (C_Hall_order : Sd.CalM P w K mg base CX0 4 A_Hall "order" ["self"] (Sd.spOrder A_Boxes A_Hand A_Hall))
    (C_Hall_touches : Sd.CalM P w K mg base CX0 1 A_Hall "touches" ["self"] (Sd.spTouches A_Boxes A_Hand A_Hall))
    (hcode : fd.code = .ref c) (TB : LamX.TabB base mg c Pt) (FR : Fun K "_law_refused" "_law_refused" s_l_refused gr fdr) (mR : mg "_law_refused" = some (.ref gr)) (BR : Binds K fdr ["_law_work"] [])
    : FnOk P w K mg base CX0 18 f fd ["_law_script"] (spLawT K Pt) := by
  obtain ⟨oc, od, kV, doc, pm, an, cdv, ct, osl, rfl, lk, hcd⟩ := F.ex
  cases (show cdv = .ref c from hcode)
  obtain ⟨ocr, odr, kVr, docr, pmr, anr, cdr, ctr, oslr, rfl, lkR, hcR⟩ := FR.ex
  refine fn_of lk hcd sc_law (fun vs H Q E h => ?_) fun A outer s H vs Q E hr h => ?_
  · obtain ⟨a, ns, rfl, _⟩ := h
    rfl
  obtain ⟨a, ns, rfl, hS, hlen, hPt, q⟩ := h
  obtain ⟨TS, hTSe⟩ : ∃ TS : List (Addr × Str), TS = [(Pt, (PyProof.Rows.envOfC "law" (defScope s_law) s.heap.objs.size f (.ref c)).qual ++ ("<lambda>" : Str))] := ⟨_, rfl⟩
  have hTS : ∀ p ∈ TS, p.1 = Pt → p.2 = (PyProof.Rows.envOfC "law" (defScope s_law) s.heap.objs.size f (.ref c)).qual ++ ("<lambda>" : Str) := fun p hp _ => by rw [hTSe] at hp; rw [List.mem_singleton.mp hp]
  have hTSm : (Pt, (PyProof.Rows.envOfC "law" (defScope s_law) s.heap.objs.size f (.ref c)).qual ++ ("<lambda>" : Str)) ∈ TS := by rw [hTSe]; exact List.mem_singleton.mpr rfl
  have main : ∃ t, PSs (cxOf CX0 P w K mg base N_law "law" (defScope s_law) f (.ref c) A outer s H E).nox (defBody s_law) t ∧ t { nx := fun _ H' => Q .non H', rt := Q } (L2.start N_law [.ref a]) H := by
    refine ⟨_, (pss_cons (ps_set (i := 1) sc_law.nd rfl (Or.inr rfl) (pe_op op_mod (pe_callB call_abs (by rfl) T.abs (by decide +kernel) (pa_cons (Sd.pe_fn C_l_cell (hr.mono (by decide)) pass0 (pa_cons (pv 0) (pa_cons pe_int pa_nil))) pa_nil)) pe_int))
      (pss_cons (ps_set (i := 2) sc_law.nd rfl (Or.inr rfl) (Sd.pe_fn C_l_dice (hr.mono (by decide)) pass0 (pa_cons (pv 0) (pa_cons pe_int pa_nil))))
      (pss_cons (ps_set (i := 3) sc_law.nd rfl (Or.inl rfl) (Sd.pe_fn0 C_l_words (hr.mono (by decide)) pass0))
      (pss_cons (ps_set (i := 4) sc_law.nd rfl (Or.inr rfl) (Sd.pe_fn C_l_plans (hr.mono (by decide)) pass0 (pa_cons (pv 2) (pa_cons (pv 1) (pa_cons (pv 3) (pa_cons pe_int pa_nil))))))
      (pss_cons (ps_if (PW.pt (pw_or (pt_cmpR op_eq (pv 1) pe_int (nomark _)) (pw_or1 (pt_cmpR op_gt (pv 1) pe_int (nomark _)))))
      (pss_one (ps_ret (LamX.pe_lamcall (T := TS) (k := kLam) rfl mR FR.kp lkR hcR BR sc_l_refused rfl (by first | exact .inl rfl | exact .inr (.inl rfl)) (gives_refused T) TB rfl hTSm hTS (hr.mono (by decide)) (LamX.lamS_by (sc := defScope s_law) (by decide +kernel)) rfl (fun _ _ _ _ _ => rfl) (fun A₂ o₂ s₂ H₂ E₂ f₂ c₂ hr => (Sd.pe_mk C_Hall (hr.mono (by decide)) (passes_call (takes_of rfl rfl rfl rfl) (fun _ _ _ _ h => h)) (pa_cons (pv 4) pa_nil))))))
      pss_nil)
      (pss_cons (ps_setLc (i := 5) (own := [("_law_plan", 7)]) (g := gName 7) (by rfl) sc_law.nd rfl rfl (sw_true rfl rfl rfl (by decide +kernel)) (pi_list (pv 4)) (blkOk_by (own := [("_law_plan", 7)]) (N := N_law) (sc := defScope s_law) (by decide +kernel)) (fun _ _ _ _ _ => pg_name (i := 7) sc_law.nd rfl (Or.inl rfl)) (fun _ _ _ _ _ => pts_nil) (fun _ _ _ _ _ => (pe_callTy (Sd.call_list_ofK (K := K) rfl) (by rfl) T.list (by decide +kernel) (pa_cons (pv 7) pa_nil))))
      (pss_cons (ps_set (i := 6) sc_law.nd rfl (Or.inr rfl) (Sd.pe_mk C_Hall (hr.mono (by decide)) passL (pa_cons (pv 5) pa_nil)))
      (pss_cons (ps_if (pt_cmpR (op_neD hr.units) (pv 5) (pv 4) (nomark _))
      (pss_one (ps_ret pe_bl))
      pss_nil)
      (pss_cons (ps_for PassesOwn.never rfl (pi_list (pv 5)) (pg_name (i := 7) sc_law.nd rfl (Or.inl rfl))
      (pss_one (ps_expr (pe_bm PySem.F.plainAttrs_list PySem.F.slot_list_append PySem.F.type_list_append mt_append (pv 7) (pa_cons (pe_tup (pa_cons pe_str pa_nil)) pa_nil)))))
      (pss_cons (ps_set (i := 8) sc_law.nd rfl (Or.inr rfl) (pe_ix ix_list (pe_lst (pa_cons (pe_un un_neg pe_int) (pa_cons (pv 1) (pa_cons (pe_op op_add (pv 1) (Sd.pe_fn C_l_off (hr.mono (by decide)) pass0 (pa_cons (pv 2) (pa_cons pe_int pa_nil)))) (pa_cons (pe_op op_sub (pe_un un_neg pe_int) (Sd.pe_fn C_l_off (hr.mono (by decide)) pass0 (pa_cons (pv 2) (pa_cons pe_int pa_nil)))) pa_nil))))) (pe_op op_mod (pe_callB call_abs (by rfl) T.abs (by decide +kernel) (pa_cons (Sd.pe_fn C_l_cell (hr.mono (by decide)) pass0 (pa_cons (pv 0) (pa_cons pe_int pa_nil))) pa_nil)) pe_int) (fun _ _ => rfl)))
      (pss_cons (ps_set (i := 9) sc_law.nd rfl (Or.inr rfl) (pe_lc (own := [("_law_k", 12)]) (g := gName 12) (by rfl) sc_law.nd (pi_range1 rfl T.range (pa_cons (Sd.pe_fn C_l_off (hr.mono (by decide)) pass0 (pa_cons (pv 2) (pa_cons (pe_ix ix_list (pe_lst (pa_cons pe_int (pa_cons pe_int pa_nil))) (Sd.pe_fn C_l_off (hr.mono (by decide)) pass0 (pa_cons (pv 2) (pa_cons pe_int pa_nil))) (fun _ _ => rfl)) pa_nil))) pa_nil)) (blkOk_by (own := [("_law_k", 12)]) (N := N_law) (sc := defScope s_law) (by decide +kernel)) (fun _ _ _ _ _ => pg_name (i := 12) sc_law.nd rfl (Or.inl rfl)) (fun _ _ _ _ _ => pts_nil) (fun _ _ _ _ _ => (Sd.pe_fn C_l_off (hr.mono (by decide)) pass0 (pa_cons (pv 2) (pa_cons (pv 1) pa_nil))))))
      (pss_cons (ps_set (i := 10) sc_law.nd rfl (Or.inr rfl) (Sd.pe_fn C_l_off (hr.mono (by decide)) pass0 (pa_cons (pv 2) (pa_cons (pe_op op_add (pe_callB call_len_seq (by rfl) T.len (by decide +kernel) (pa_cons (pv 9) pa_nil)) pe_int) pa_nil))))
      (pss_cons (ps_if (pt_not (pt_val (LamX.pe_lamcall (T := TS) (k := kLam) rfl mR FR.kp lkR hcR BR sc_l_refused rfl (by first | exact .inl rfl | exact .inr (.inl rfl)) (gives_refused T) TB rfl hTSm hTS (hr.mono (by decide)) (LamX.lamS_by (sc := defScope s_law) (by decide +kernel)) rfl (fun _ _ _ _ _ => rfl) (fun A₂ o₂ s₂ H₂ E₂ f₂ c₂ hr => (Sd.pe_mt C_Hall_step (hr.mono (by decide)) (passes_call (takes_of rfl rfl rfl rfl) (fun _ _ _ _ h => h)) (pv 6) (pa_cons (pv 8) pa_nil))))))
      (pss_one (ps_ret pe_bl))
      pss_nil)
      (pss_cons (ps_if (pt_not (pt_val (LamX.pe_lamcall (T := TS) (k := kLam) rfl mR FR.kp lkR hcR BR sc_l_refused rfl (by first | exact .inl rfl | exact .inr (.inl rfl)) (gives_refused T) TB rfl hTSm hTS (hr.mono (by decide)) (LamX.lamS_by (sc := defScope s_law) (by decide +kernel)) rfl (fun _ _ _ _ _ => rfl) (fun A₂ o₂ s₂ H₂ E₂ f₂ c₂ hr => (Sd.pe_mt C_Hall_steps_of (hr.mono (by decide)) (passes_call (takes_of rfl rfl rfl rfl) (fun _ _ _ _ h => h)) (pv 6) (pa_cons (pv 8) pa_nil))))))
      (pss_one (ps_ret pe_bl))
      pss_nil)
      (pss_cons (ps_if (pt_not (pt_val (LamX.pe_lamcall (T := TS) (k := kLam) rfl mR FR.kp lkR hcR BR sc_l_refused rfl (by first | exact .inl rfl | exact .inr (.inl rfl)) (gives_refused T) TB rfl hTSm hTS (hr.mono (by decide)) (LamX.lamS_by (sc := defScope s_law) (by decide +kernel)) rfl (fun _ _ _ _ _ => rfl) (fun A₂ o₂ s₂ H₂ E₂ f₂ c₂ hr => (Sd.pe_mt C_Hall_weave (hr.mono (by decide)) (passes_call (takes_of rfl rfl rfl rfl) (fun _ _ _ _ h => h)) (pv 6) (pa_cons (pe_op op_cat (pe_op op_cat (pe_slice (Sd.slK (K := K) (r := rSlL) sl_list rfl) (pv 9) po_none (po_some (pv 10))) (pe_lst (pa_cons (pv 8) pa_nil))) (pe_slice (Sd.slK (K := K) (r := rSlL) sl_list rfl) (pv 9) (po_some (pv 10)) po_none)) pa_nil))))))
      (pss_one (ps_ret pe_bl))
      pss_nil)
      (pss_cons (ps_if (PW.pt (pw_or (pt_cmpR (op_neD hr.units) (Sd.pe_mt0 C_Hall_records (hr.mono (by decide)) pass0 (pv 6)) (pe_lst pa_nil) (nomark _)) (pw_or (pt_cmpR (op_neD hr.units) (Sd.pe_mt0 C_Hall_order (hr.mono (by decide)) pass0 (pv 6)) (pe_lst pa_nil) (nomark _)) (pw_or (pt_cmpR (op_neD hr.units) (Sd.pe_mt0 C_Hall_touches (hr.mono (by decide)) pass0 (pv 6)) (pe_lst pa_nil) (nomark _)) (pw_or1 (pt_cmpR op_ne (Sd.pe_mt C_Hall_weave (hr.mono (by decide)) passL (pv 6) (pa_cons (pe_lst pa_nil) pa_nil)) pe_int (nomark _)))))))
      (pss_one (ps_ret pe_bl))
      pss_nil)
      (pss_cons (ps_for PassesOwn.never rfl (pi_range1 rfl T.range (pa_cons (pv 1) pa_nil)) (pg_name (i := 11) sc_law.nd rfl (Or.inl rfl))
      (pss_cons (ps_if (pt_cmpR op_ne (Sd.pe_mt C_Hall_steps_of (hr.mono (by decide)) passL (pv 6) (pa_cons (pv 11) pa_nil)) pe_int (nomark _))
      (pss_one (ps_ret pe_bl))
      pss_nil)
      (pss_one (ps_while PassesOwn.never (pt_val (Sd.pe_mt C_Hall_step (hr.mono (by decide)) passL (pv 6) (pa_cons (pv 11) pa_nil)))
      (pss_one (ps_if (pt_cmpR op_gt (Sd.pe_mt C_Hall_steps_of (hr.mono (by decide)) passL (pv 6) (pa_cons (pv 11) pa_nil)) pe_int (nomark _))
      (pss_one (ps_ret pe_bl))
      pss_nil))))))
      (pss_one (ps_ret (pe_cmpR (op_eqD hr.units) (pe_lc (own := [("_law_record", 13)]) (g := gName 13) (by rfl) sc_law.nd (pi_list (Sd.pe_mt0 C_Hall_records (hr.mono (by decide)) pass0 (pv 6))) (blkOk_by (own := [("_law_record", 13)]) (N := N_law) (sc := defScope s_law) (by decide +kernel)) (fun _ _ _ _ _ => pg_name (i := 13) sc_law.nd rfl (Or.inl rfl)) (fun _ _ _ _ _ => (pts_one (pt_cmpR op_eq (pe_ix (Sd.ixK (K := K) (r := rIxT) ix_tup rfl) (pv 13) pe_int (fun _ _ => rfl)) pe_int (nomark _)))) (fun _ _ _ _ _ => (pe_ix (Sd.ixK (K := K) (r := rIxT) ix_tup rfl) (pv 13) pe_int (fun _ _ => rfl)))) (pe_ix ix_list (pv 4) pe_int (fun _ _ => rfl)) (nomark _))))))))))))))))))))), ?_⟩
    have tabs0 : ∀ H' : Hp, H' Pt = some (.tbl #[]) → LamX.Tabs TS H' := fun H' e p hp => by
      rw [hTSe] at hp
      rw [List.mem_singleton.mp hp]
      exact LamX.TabS.nil e
    refine ⟨_, rfl, a, ns, 0, rfl, by decide, hS, fun v => ⟨v, rfl, _, _, rfl, rfl, (by show (0 : Int) < 7; decide), ?_⟩⟩
    dsimp only
    have hN0 : 0 ≤ (if v < 0 then -v else v) % 7 := Int.emod_nonneg _ (by decide)
    have hN1 : (if v < 0 then -v else v) % 7 < 7 := Int.emod_lt_of_pos _ (by decide)
    obtain ⟨m, hm⟩ := Int.eq_ofNat_of_zero_le hN0
    rw [hm] at hN1 ⊢
    have m6 : m ≤ 6 := by omega
    refine ⟨_, rfl, a, ns, 1, rfl, by decide, hS, fun d H1 hd s1 bt1 D1 o1 => ?_⟩
    have S1 := s1.seq hS
    have hP1 := s1 _ _ hPt
    have nPd : Pt ≠ d := ne_of_none hPt hd
    refine ⟨rfl, fun wl H2 hwl s2 c2 => ?_⟩
    have D2 := D1.same s2
    have S2 := s2.seq S1
    have hP2 := s2 _ _ hP1
    have nwd : wl ≠ d := (D1.ne hwl).symm
    refine ⟨_, rfl, _, rfl, _, rfl, d, a, wl, ns, _, m, 6, rfl, D2, S2, c2, nwd, by decide +kernel, by decide, by decide, by omega, by decide, fun pl ls pss plans H3 R hpl D3 S3 b3 => ?_⟩
    have hP3 := b3 _ _ nPd hP2
    have lpp := Sd.Paired.len R.hps
    have lls := Sd.Paired.len R.hls
    -- no plans, or too many
    have bad : (m = 0 ∨ 4 < m) → LamX.tLam TS (Sd.TTref A_NoHand) (fun E => tMake A_Hall (Sd.spHallInit A_Boxes A_Hand A_Hall A_NoHand A_NoDeed) [] E (tCons (tVar 4) tNil)) (((((L2.start N_law [V.ref a]).set 1 (some (.int (m : Nat)))).set 2 (some (.ref d))).set 3 (some (.ref wl))).set 4 (some (.ref pl))) H3 Q := fun hm' => by
      refine ⟨tabs0 H3 hP3, fun H4 ext tabs4 => ?_⟩
      refine ⟨_, rfl, fun x dx nx ndx nxd => ?_⟩
      have t4 := Sd.ExtN.tu ext
      have s5 : ∀ {y : Addr} {o : HO}, H4 y = some o → upd (upd H4 dx (.own x)) x (.ins A_Hall dx []) y = some o := fun e => by
        rw [upd_ne (ne_of_none e nx), upd_ne (ne_of_none e ndx)]
        exact e
      refine ⟨x, dx, pl, ls, pss, rfl, upd_same, ⟨s5 (ext _ _ R.hpl fun _ z => by cases z), Sd.Paired.mapM R.hls fun y _ z e => s5 (ext _ _ e fun _ z => by cases z)⟩, by omega, fun ps hps => ?_, .inr (.inl ⟨by omega, rfl, rfl, fun H' _ => q H'⟩)⟩
      obtain ⟨k, hk⟩ := List.getElem?_of_mem hps
      obtain ⟨plan, hp1, hp2⟩ := Sd.Paired.get2 R.hps hk
      have := R.short plan (List.mem_of_getElem? hp1)
      rw [Sd.Paired.len hp2]
      omega
    refine ⟨_, rfl, rfl, _, rfl, ?_⟩
    by_cases c0 : m = 0
    · refine ite2 (fun _ => ?_) (fun c => absurd (decide_eq_true (by rw [c0]; rfl)) c)
      exact bad (.inl c0)
    refine ite2 (fun c => absurd (of_decide_eq_true c) (fun z => c0 (by injection z with z; omega))) (fun _ => ?_)
    refine ⟨_, rfl, _, _, rfl, rfl, _, rfl, ?_⟩
    by_cases c4 : 4 < m
    · refine ite2 (fun _ => ?_) (fun c => absurd (decide_eq_true (by omega)) c)
      exact bad (.inr c4)
    refine ite2 (fun c => absurd (of_decide_eq_true c) (by omega)) (fun _ => ?_)
    have m1 : 1 ≤ m := by omega
    have m4 : m ≤ 4 := by omega
    -- handed in
    have plHc := R.hpl
    have lsHc := R.hls
    refine ⟨_, rfl, pl, rfl, ⟨_, SqL.of R.hpl⟩, fun D hD => ?_⟩
    refine lc_list (K := K) (xs := ls.map V.ref) (fun i H'' => ∃ cs : List Addr, cs.length = i ∧ Sd.Copied H3 H'' D cs (pss.take i)) ⟨[], rfl, Sd.Same.new hD, upd_same, .nil, by simp, by simp, hD⟩ (fun i H'' _ h => SqL.of (h.choose_spec.2.st _ _ R.hpl)) ?_ ?_
    · rintro i x H'' hx ⟨cs, hcl, C⟩
      have hle4 : ls.length ≤ 1000 := by omega
      rw [List.getElem?_map] at hx
      cases hl' : ls[i]? with
      | none => rw [hl'] at hx; cases hx
      | some l =>
        rw [hl'] at hx
        cases hx
        obtain ⟨ps, hps, hlp2⟩ := Sd.Paired.get2 lsHc hl'
        refine ⟨rfl, _, rfl, l, _, rfl, .inl (SqL.of (C.st _ _ hlp2)), fun c hc => ?_⟩
        have nc : c ≠ D := fun z => by rw [z, C.hD] at hc; cases hc
        refine ⟨_, (by rw [upd_ne nc.symm]; exact C.hD), ?_, cs ++ [c], by rw [List.length_append, hcl]; rfl, ?_⟩
        · rw [List.length_map, hcl]
          have := (List.getElem?_eq_some_iff.mp hl').1
          exact small1000 (by omega)
        · have e : pss.take (i + 1) = pss.take i ++ [ps] := by
            obtain ⟨h1, h2⟩ := List.getElem?_eq_some_iff.mp hps
            rw [List.take_succ_eq_append_getElem h1, h2]
          rw [e]
          exact C.add hc
    rintro H4 ⟨cs, hcl, C⟩
    rw [List.length_map, lls, List.take_length] at C
    rw [List.length_map, lls] at hcl
    have s34 := C.st
    have R4 := R.copied C
    have PO := R4.plansOk (by decide) (by omega) (by omega)
    have F0 : Sd.Fine (Sd.HallM.new plans) := ⟨_, Sd.HallInv.new PO⟩
    have hnm : (Sd.HallM.new plans).many = m := hpl
    refine ⟨_, rfl, fun x dx nx ndx nxd => Sd.made_hall R4 (by omega) (by omega) (by decide) nx ndx fun g H5 gh gf s5 HA => ⟨rfl, ?_⟩⟩
    have s35 := s34.trans s5
    have S5 := s35.seq S3
    have D5 := D3.same s35
    have hP5 := s35 _ _ hP3
    have R5 := R.mono (F := []) (Sd.Off.of_same s35) (by simp) (Sd.Tu.same s35)
    have R5' := R4.mono (F := []) (Sd.Off.of_same s5) (by simp) (Sd.Tu.same s5)
    -- as they were
    refine ⟨_, rfl, _, rfl, Sd.plansD plans, Sd.plansD plans, .lst (SqL.of R5'.hpl) (Sd.dp_plans R5'.hls R5'.hps), .lst (SqL.of R5.hpl) (Sd.dp_plans R5.hls R5.hps), Sd.plansD_shaped _, Sd.plansD_shaped _, _, rfl, ?_⟩
    rw [SeqAt.eqv_refl _ (Sd.plansD_lay _)]
    -- changed behind its back
    have D5l := R5'.hpl
    have csf : ∀ c ∈ cs, H3 c = none ∧ c ≠ D := C.fr
    have ncs : ∀ {y : Addr} {o : HO}, H3 y = some o → y ∉ cs := fun e mm => by rw [(csf _ mm).1] at e; cases e
    have nDc : D ∉ cs := fun mm => (csf _ mm).2 rfl
    refine ⟨_, rfl, D, rfl, ⟨_, SqL.of D5l⟩, ?_⟩
    refine for_list (K := K) (xs := cs.map V.ref) (fun k σ H' => ∃ v7 : Option V, σ = [some (.ref a), some (.int m), some (.ref d), some (.ref wl), some (.ref pl), some (.ref D), some (.ref x), v7, none, none, none, none, none, none] ∧ Sd.Off cs H5 H' ∧ Sd.Tu H5 H' ∧ ∀ (j : Nat) (c : Addr) (ps : List Addr), k ≤ j → cs[j]? = some c → pss[j]? = some ps → H' c = some (.lst (ps.map V.ref)))
      ⟨none, rfl, Sd.Off.refl _ _, Sd.Tu.refl _, fun j c ps _ hj hp => ?_⟩ (fun k σ H' _ h => by
        obtain ⟨_, _, o, _⟩ := h
        exact SqL.of (o _ _ nDc D5l)) ?_ ?_
    · obtain ⟨ps', h1, h2⟩ := Sd.Paired.get2 R5'.hls hj
      rw [hp] at h1
      cases h1
      exact h2
    · rintro k xx σ H' hx ⟨v7, rfl, o, t, un⟩
      rw [List.getElem?_map] at hx
      obtain ⟨c, hc, rfl⟩ := Option.map_eq_some_iff.mp hx
      obtain ⟨ps, hps, _⟩ := Sd.Paired.get2 R5'.hls hc
      have hcl' := un k c ps (Nat.le_refl _) hc hps
      obtain ⟨plan, hplan, hP⟩ := Sd.Paired.get2 R5'.hps hps
      have l6 := R.short plan (List.mem_of_getElem? hplan)
      have lp := Sd.Paired.len hP
      refine ⟨_, rfl, .inl ⟨rfl, _, SqL.of hcl'⟩, (by show 1 ≤ sizeLine; decide), fun t1 ht1 => ?_⟩
      have s6 := Sd.Same.new (o := .tup [.str "one"]) ht1
      have c6 := s6 _ _ hcl'
      generalize upd H' t1 (.tup [.str "one"]) = H6 at s6 c6 ⊢
      refine ⟨c, _, _, rfl, rfl, c6, ?_, ?_⟩
      · rw [List.length_map]
        exact Nat.lt_of_lt_of_le (by omega : _ < 100) (by decide)
      have u : Sd.Off cs H6 (upd H6 c (.lst (ps.map V.ref ++ [.ref t1]))) := Sd.Off.upd (List.mem_of_getElem? hc)
      have tu : Sd.Tu H6 (upd H6 c (.lst (ps.map V.ref ++ [.ref t1]))) := Sd.Tu.upd fun xs e => by rw [c6] at e; cases e
      refine ⟨_, rfl, o.trans (Sd.Off.trans (fun b ob n e => s6 _ _ e) u), t.trans ((Sd.Tu.same s6).trans tu), fun j c2 ps2 hkj hj hp2 => ?_⟩
      have nc : c2 ≠ c := fun z => by
        subst z
        have := (List.getElem?_inj (List.getElem?_eq_some_iff.mp hc).1 C.nd).mp (hc.trans hj.symm)
        omega
      rw [upd_ne nc]
      exact s6 _ _ (un j c2 ps2 (by omega) hj hp2)
    rintro σ H6 ⟨v7, rfl, o6, t6, _⟩
    have HA6 := HA.off o6 (fun y hy mm => by
      obtain ⟨k, hk⟩ := List.getElem?_of_mem mm
      obtain ⟨_, _, hh⟩ := Sd.Paired.get2 C.hcs hk
      rw [gf y hy] at hh
      cases hh) t6
    have hd3e := D3.some
    obtain ⟨od3, hd3⟩ := hd3e
    have D6 : Sd.Dice H6 d a := by
      obtain ⟨e1, e2, e3, hh⟩ := D5
      exact ⟨e1, e2, e3, o6 _ _ (ncs hd3) hh⟩
    have S6 : SqL K H6 a (ns.map V.int) := Sd.SqL.off S3 S5 o6 fun u e => ncs e
    have hP6 := o6 _ _ (ncs hP3) hP5
    have R6 := R5.mono (F := cs) o6 (fun y hy mm => by
      rcases List.mem_cons.mp hy with z | z
      · rw [z] at mm
        exact ncs R.hpl mm
      · obtain ⟨k, hk⟩ := List.getElem?_of_mem z
        obtain ⟨_, _, hh⟩ := Sd.Paired.get2 R.hls hk
        exact ncs hh mm) t6
    -- a hand that there isn't
    refine ⟨_, rfl, _, rfl, _, rfl, _, rfl, d, a, ns, 9, rfl, D6, S6, by decide, by decide, fun r1 H7 r10 r11 D7 o7 => ⟨_, _, rfl, rfl, ?_⟩⟩
    have b67 := Sd.eqBut o7
    have S7 := D6.seq b67 S6
    refine ⟨_, rfl, _, rfl, d, a, ns, 9, rfl, D7, S7, by decide, by decide, fun r2 H8 r20 r21 D8 o8 => ⟨_, _, rfl, rfl, ?_⟩⟩
    have b78 := Sd.eqBut o8
    have S8 := D7.seq b78 S7
    dsimp only
    refine ⟨(by show 4 ≤ sizeLine; decide), fun fl hfl => ?_⟩
    have s9 := Sd.Same.new (o := .lst [.int (-1), .int (m : Nat), .int ((m : Int) + r1), .int (-2 - r2)]) hfl
    have c9 : upd H8 fl (.lst [.int (-1), .int (m : Nat), .int ((m : Int) + r1), .int (-2 - r2)]) fl = some (.lst [.int (-1), .int (m : Nat), .int ((m : Int) + r1), .int (-2 - r2)]) := upd_same
    generalize upd H8 fl (.lst [.int (-1), .int (m : Nat), .int ((m : Int) + r1), .int (-2 - r2)]) = H9 at s9 c9 ⊢
    have D9 := D8.same s9
    have S9 := s9.seq S8
    refine ⟨_, rfl, a, ns, 2, rfl, by decide, S9, fun v2 => ⟨v2, rfl, _, _, rfl, rfl, (by show (0 : Int) < 4; decide), ?_⟩⟩
    dsimp only
    obtain ⟨far, hfar, hno⟩ : ∃ far : Int, atI [V.int (-1), .int (m : Nat), .int ((m : Int) + r1), .int (-2 - r2)] ((if v2 < 0 then -v2 else v2) % 4) = some (.int far) ∧ (far < 0 ∨ (m : Int) ≤ far) := by
      have h2 : (if v2 < 0 then -v2 else v2) % 4 = 0 ∨ (if v2 < 0 then -v2 else v2) % 4 = 1 ∨ (if v2 < 0 then -v2 else v2) % 4 = 2 ∨ (if v2 < 0 then -v2 else v2) % 4 = 3 := by
        have h0 : 0 ≤ (if v2 < 0 then -v2 else v2) % 4 := Int.emod_nonneg _ (by decide)
        have h1 : (if v2 < 0 then -v2 else v2) % 4 < 4 := Int.emod_lt_of_pos _ (by decide)
        omega
      rcases h2 with h2 | h2 | h2 | h2 <;> rw [h2]
      · exact ⟨-1, atI_nat (j := 0) rfl, by omega⟩
      · exact ⟨m, atI_nat (j := 1) rfl, by omega⟩
      · exact ⟨_, atI_nat (j := 2) rfl, by omega⟩
      · exact ⟨_, atI_nat (j := 3) rfl, by omega⟩
    refine ⟨fl, _, _, _, rfl, rfl, SqL.of c9, hfar, ?_⟩
    -- a row
    refine ⟨_, rfl, (by show 2 ≤ sizeLine; decide), fun l2 hl2 => ?_⟩
    have sA := Sd.Same.new (o := .lst [.int 5, .int 90]) hl2
    have cA : upd H9 l2 (.lst [.int 5, .int 90]) l2 = some (.lst [.int 5, .int 90]) := upd_same
    generalize upd H9 l2 (.lst [.int 5, .int 90]) = HA' at sA cA ⊢
    have DA := D9.same sA
    have SA := sA.seq S9
    have nl2 : l2 ≠ d := (D9.ne hl2).symm
    refine ⟨_, rfl, d, a, ns, 2, rfl, DA, SA, by decide, by decide, fun r3 HB r30 r31 DB oB => ?_⟩
    have bAB := Sd.eqBut oB
    have SB := DA.seq bAB SA
    obtain ⟨mx, hmx, mx1, mx2⟩ : ∃ mx : Int, atI [V.int 5, .int 90] r3 = some (.int mx) ∧ 1 ≤ mx ∧ mx ≤ 90 := by
      have h2 : r3 = 0 ∨ r3 = 1 := by omega
      rcases h2 with rfl | rfl
      · exact ⟨5, atI_nat (j := 0) rfl, by decide, by decide⟩
      · exact ⟨90, atI_nat (j := 1) rfl, by decide, by decide⟩
    refine ⟨l2, _, _, _, rfl, rfl, SqL.of (bAB _ _ nl2 cA), hmx, d, a, ns, _, rfl, DB, SB, by omega, by omega, fun r4 HC r40 r41 DC oC => ⟨_, rfl, by omega, by omega, fun rw' hrw => ?_⟩⟩
    have bBC := Sd.eqBut oC
    have SC := DB.seq bBC SB
    have ndr : d ≠ rw' := DC.ne hrw
    refine lc_range (lo := 0) (n := r4.toNat) (fun i H' => (∀ b, b ≠ d → b ≠ rw' → H' b = HC b) ∧ Sd.Dice H' d a ∧ SqL K H' a (ns.map V.int) ∧ ∃ l : List Int, H' rw' = some (.lst (l.map V.int)) ∧ l.length = i)
      ⟨fun b _ e => upd_ne e, DC.same (Sd.Same.new hrw), (Sd.Same.new hrw).seq SC, [], upd_same, rfl⟩ ?_ ?_
    · rintro i H' hi ⟨hb, hD1, hS1, l, hL, hl⟩
      refine ⟨rfl, _, rfl, _, rfl, d, a, ns, m, rfl, hD1, hS1, by omega, by omega, fun r H3' r0 r1 D3' o3 => ?_⟩
      have hL3 : H3' rw' = some (.lst (l.map V.int)) := by rw [o3 rw' ndr.symm]; exact hL
      have b3' : Sd.But d H' H3' := fun b o n e => by rw [o3 b n]; exact e
      refine ⟨_, hL3, by rw [List.length_map, hl]; exact Nat.lt_of_lt_of_le (by omega : i < 100) (by decide), fun b n1 n2 => ?_, D3'.but Sd.But.upd ndr, ?_, l ++ [r], ?_, ?_⟩
      · rw [upd_ne n2, o3 b n1]
        exact hb b n1 n2
      · have S3 := hD1.seq b3' hS1
        exact Sd.SqL.upd0 SC hrw S3
      · rw [upd_same, List.map_append]
        rfl
      · rw [List.length_append, hl]
        rfl
    rintro HD ⟨hbD, DD, SD, row, cRow, lrow⟩
    have lrow90 : row.length ≤ 90 := by omega
    -- where in it
    refine ⟨_, rfl, _, rfl, rw', _, rfl, .inl (SqL.of cRow), _, _, rfl, rfl, ?_⟩
    dsimp only
    rw [List.length_map]
    refine ⟨d, a, ns, _, rfl, DD, SD, by omega, by omega, fun r5 HE r50 r51 DE oE => ?_⟩
    have bDE := Sd.eqBut oE
    obtain ⟨at_, rfl⟩ := Int.eq_ofNat_of_zero_le r50
    have cRowE := bDE _ _ ndr.symm cRow
    -- the hall as it was
    have bAll : ∀ y o, y ≠ d → H6 y = some o → HE y = some o := fun y o n e => by
      have e9 := s9 _ _ (b78 _ _ n (b67 _ _ n e))
      have eC := bBC _ _ n (bAB _ _ n (sA _ _ e9))
      have nr : y ≠ rw' := ne_of_none eC hrw
      refine bDE _ _ n ?_
      rw [hbD y n nr]
      exact eC
    have tuE := D6.tu bAll
    have dg : d ∉ g.list := fun mm => by
      have := gf d mm
      rw [s34 _ _ hd3] at this
      cases this
    have HAE := HA6.off (F := [d]) (Sd.Off.but' bAll) (fun y hy mm => dg (by rw [← List.mem_singleton.mp mm]; exact hy)) tuE
    have hPE := bAll _ _ nPd hP6
    have RE := R6.mono (F := [d]) (Sd.Off.but' bAll) (fun y hy mm => by
      have e := List.mem_singleton.mp mm
      rw [e] at hy
      rcases List.mem_cons.mp hy with z | z
      · have := R6.hpl
        rw [← z] at this
        exact D6.ne_refs this rfl
      · obtain ⟨k, hk⟩ := List.getElem?_of_mem z
        obtain ⟨_, _, hh⟩ := Sd.Paired.get2 R6.hls hk
        exact D6.ne_refs hh rfl) tuE
    have no : Sd.NoSuch (Sd.HallM.new plans) far := by
      unfold Sd.NoSuch
      rw [hnm]
      exact hno
    -- refused, once
    refine ⟨tabs0 HE hPE, fun HF ext1 tabs1 => ?_⟩
    have HAF := Sd.HallAt.ext HAE ext1
    obtain ⟨dxF, hobF⟩ := HAF.ob
    rw [gh] at hobF
    refine ⟨_, rfl, x, dxF, _, rfl, hobF, rfl, _, rfl, g, _, far, by rw [gh]; rfl, HAF, .inr ⟨no, rfl, rfl, fun HG sG => ?_⟩⟩
    refine ⟨_, rfl, ?_⟩
    -- twice
    refine ⟨tabs1.ext sG, fun HI ext2 tabs2 => ?_⟩
    have ext02 := (ext1.trans (LamX.ExtN.of sG)).trans ext2
    have HAI := Sd.HallAt.ext HAE ext02
    obtain ⟨dxI, hobI⟩ := HAI.ob
    rw [gh] at hobI
    refine ⟨_, rfl, x, dxI, _, rfl, hobI, rfl, _, rfl, g, _, far, by rw [gh]; rfl, HAI, .inr ⟨no, rfl, rfl, fun HJ sJ => ?_⟩⟩
    refine ⟨_, rfl, ?_⟩
    -- thrice
    refine ⟨tabs2.ext sJ, fun HK ext3 tabs3 => ?_⟩
    have ext03 := (ext02.trans (LamX.ExtN.of sJ)).trans ext3
    have HAK := Sd.HallAt.ext HAE ext03
    obtain ⟨dxK, hobK⟩ := HAK.ob
    rw [gh] at hobK
    have cRowK := ext03 _ _ cRowE fun _ z => by cases z
    refine ⟨_, rfl, x, dxK, _, rfl, hobK, rfl, ?_⟩
    refine ⟨_, rfl, _, rfl, _, rfl, rw', _, rfl, SqL.of cRowK, fun u1 hu1 => ?_⟩
    rw [Sd.cutV_take, ← List.map_take]
    have s10 := Sd.Same.new (o := .lst ((row.take at_).map V.int)) hu1
    have c10 : upd HK u1 (.lst ((row.take at_).map V.int)) u1 = some (.lst ((row.take at_).map V.int)) := upd_same
    generalize upd HK u1 (.lst ((row.take at_).map V.int)) = HL at s10 c10 ⊢
    refine ⟨_, rfl, (by show 1 ≤ sizeLine; decide), fun u2 hu2 => ?_⟩
    have s11 := Sd.Same.new (o := .lst [.int far]) hu2
    have c11 : upd HL u2 (.lst [.int far]) u2 = some (.lst [.int far]) := upd_same
    generalize upd HL u2 (.lst [.int far]) = HM at s11 c11 ⊢
    refine ⟨u1, u2, _, _, rfl, rfl, s11 _ _ c10, c11, ?_, fun u3 hu3 => ?_⟩
    · rw [List.length_map, List.length_take]
      exact Nat.le_trans (by show _ + 1 ≤ 100; omega) (by decide : 100 ≤ sizeLine)
    have s12 := Sd.Same.new (o := .lst ((row.take at_).map V.int ++ [.int far])) hu3
    have c12 : upd HM u3 (.lst ((row.take at_).map V.int ++ [.int far])) u3 = some (.lst ((row.take at_).map V.int ++ [.int far])) := upd_same
    generalize upd HM u3 (.lst ((row.take at_).map V.int ++ [.int far])) = HN at s12 c12 ⊢
    refine ⟨_, rfl, _, rfl, _, rfl, rw', _, rfl, SqL.of (((s10.trans s11).trans s12) _ _ cRowK), fun u4 hu4 => ?_⟩
    rw [Sd.cut_drop, ← List.map_drop]
    have s13 := Sd.Same.new (o := .lst ((row.drop at_).map V.int)) hu4
    have c13 : upd HN u4 (.lst ((row.drop at_).map V.int)) u4 = some (.lst ((row.drop at_).map V.int)) := upd_same
    generalize upd HN u4 (.lst ((row.drop at_).map V.int)) = HO' at s13 c13 ⊢
    refine ⟨u3, u4, _, _, rfl, rfl, s13 _ _ c12, c13, ?_, fun u5 hu5 => ?_⟩
    · rw [List.length_append, List.length_map, List.length_map, List.length_take, List.length_drop]
      exact Nat.le_trans (by show _ + 1 + _ ≤ 200; omega) (by decide : 200 ≤ sizeLine)
    have ev : (row.take at_).map V.int ++ [.int far] ++ (row.drop at_).map V.int = (row.take at_ ++ [far] ++ row.drop at_).map V.int := by
      rw [List.map_append, List.map_append]
      rfl
    rw [ev]
    have s14 := Sd.Same.new (o := .lst ((row.take at_ ++ [far] ++ row.drop at_).map V.int)) hu5
    have c14 : upd HO' u5 (.lst ((row.take at_ ++ [far] ++ row.drop at_).map V.int)) u5 = some (.lst ((row.take at_ ++ [far] ++ row.drop at_).map V.int)) := upd_same
    generalize upd HO' u5 (.lst ((row.take at_ ++ [far] ++ row.drop at_).map V.int)) = HP' at s14 c14 ⊢
    have sKP := (((s10.trans s11).trans s12).trans s13).trans s14
    refine ⟨g, _, u5, row.take at_ ++ [far] ++ row.drop at_, by rw [gh]; rfl, HAK.same sKP, c14, .inr ⟨⟨far, List.mem_append.mpr (.inl (List.mem_append.mpr (.inr (List.mem_singleton.mpr rfl)))), no⟩, rfl, rfl, fun HQ sQ => ?_⟩⟩
    refine ⟨_, rfl, ?_⟩
    -- nothing was done
    have extQ := ext03.trans (LamX.ExtN.of (sKP.trans sQ))
    have HAQ := Sd.HallAt.ext HAE extQ
    have hplQ := extQ _ _ RE.hpl fun _ z => by cases z
    have hlsQ : Paired (fun l ps => HQ l = some (.lst (ps.map V.ref))) ls pss := Sd.Paired.mapM RE.hls fun y _ z e => extQ _ _ e fun _ z => by cases z
    have hpsQ : Paired (fun ps plan => Sd.PlanAt HQ ps plan) pss plans := Sd.Paired.mapM RE.hps fun y _ z e => e.tu (Sd.ExtN.tu extQ)
    clear hbD sKP s10 s11 s12 s13 s14 c10 c11 c12 c13 c14
    obtain ⟨dxQ, hobQ⟩ := HAQ.ob
    rw [gh] at hobQ
    -- no record
    refine ⟨_, rfl, x, dxQ, _, rfl, hobQ, rfl, g, _, by rw [gh]; rfl, HAQ, fun r1' rvs1 hr1 hv1 => ?_⟩
    have s1q := Sd.Same.new (o := .lst rvs1) hr1
    have c1q : upd HQ r1' (.lst rvs1) r1' = some (.lst rvs1) := upd_same
    have hrv0 : rvs1 = [] := by
      cases hv1
      rfl
    generalize upd HQ r1' (.lst rvs1) = HR at s1q c1q ⊢
    subst hrv0
    refine ⟨(by show 0 ≤ sizeLine; decide), fun e1 he1 => ?_⟩
    have s2q := Sd.Same.new (o := .lst []) he1
    have c2q : upd HR e1 (.lst []) e1 = some (.lst []) := upd_same
    generalize upd HR e1 (.lst []) = HS at s2q c2q ⊢
    refine ⟨.list [], .list [], .lst (SqL.of (s2q _ _ c1q)) .nil, .lst (SqL.of c2q) .nil, rfl, rfl, _, rfl, ?_⟩
    have sQS := s1q.trans s2q
    obtain ⟨G0, I0⟩ := id F0
    -- no place
    refine ⟨_, rfl, x, dxQ, _, rfl, sQS _ _ hobQ, rfl, g, _, G0, by rw [gh]; rfl, HAQ.same sQS, I0, fun o1' HT order1 ho1 sT hk1 _ cT => ?_⟩
    have ho0 : order1 = [] := List.length_eq_zero_iff.mp (Sd.keepsM_len hk1)
    subst ho0
    refine ⟨(by show 0 ≤ sizeLine; decide), fun e2 he2 => ?_⟩
    have s3q := Sd.Same.new (o := .lst []) he2
    have c3q : upd HT e2 (.lst []) e2 = some (.lst []) := upd_same
    generalize upd HT e2 (.lst []) = HU at s3q c3q ⊢
    refine ⟨.list [], .list [], .lst (SqL.of (s3q _ _ cT)) .nil, .lst (SqL.of c3q) .nil, rfl, rfl, _, rfl, ?_⟩
    have sQU := (sQS.trans sT).trans s3q
    -- no touch
    refine ⟨_, rfl, x, dxQ, _, rfl, sQU _ _ hobQ, rfl, g, _, by rw [gh]; rfl, HAQ.same sQU, fun t1' tvs1 ht1 htv1 => ?_⟩
    have s4q := Sd.Same.new (o := .lst tvs1) ht1
    have c4q : upd HU t1' (.lst tvs1) t1' = some (.lst tvs1) := upd_same
    have htv0 : tvs1 = [] := by
      cases htv1
      rfl
    generalize upd HU t1' (.lst tvs1) = HV at s4q c4q ⊢
    subst htv0
    refine ⟨(by show 0 ≤ sizeLine; decide), fun e3 he3 => ?_⟩
    have s5q := Sd.Same.new (o := .lst []) he3
    have c5q : upd HV e3 (.lst []) e3 = some (.lst []) := upd_same
    generalize upd HV e3 (.lst []) = HW at s5q c5q ⊢
    refine ⟨.list [], .list [], .lst (SqL.of (s5q _ _ c4q)) .nil, .lst (SqL.of c5q) .nil, rfl, rfl, _, rfl, ?_⟩
    have sQW := (sQU.trans s4q).trans s5q
    -- no step
    refine ⟨_, rfl, x, dxQ, _, rfl, sQW _ _ hobQ, rfl, (by show 0 ≤ sizeLine; decide), fun e4 he4 => ?_⟩
    have s6q := Sd.Same.new (o := .lst []) he4
    have c6q : upd HW e4 (.lst []) e4 = some (.lst (([] : List Int).map V.int)) := upd_same
    generalize upd HW e4 (.lst []) = HX at s6q c6q ⊢
    have sQX := sQW.trans s6q
    refine ⟨g, _, e4, [], by rw [gh]; rfl, HAQ.same sQX, c6q, .inl ⟨rfl, rfl, _, rfl, ?_⟩⟩
    -- one hand, then the next
    have HAX := HAQ.same sQX
    refine ⟨_, rfl, _, rfl, by omega, by omega, ?_⟩
    refine for_range (lo := 0) (n := ((m : Nat) : Int).toNat) (fun j σ H' => ∃ (g' : Sd.HallG) (s' : Sd.HallM) (v11 : Option V), σ = [some (.ref a), some (.int m), some (.ref d), some (.ref wl), some (.ref pl), some (.ref D), some (.ref x), v7, some (.int far), some (.ref rw'), some (.int (at_ : Nat)), v11, none, none] ∧ g'.ha = x ∧ Sd.HallAt A_Boxes A_Hand A_Hall H' g' s' ∧ Sd.Through plans s' j ∧ Sd.Kept1 HX H' g g' ∧ Sd.Tu HX H')
      ⟨g, Sd.HallM.new plans, none, rfl, gh, HAX, Sd.Through.new F0, fun y o e n => ⟨e, n⟩, Sd.Tu.refl _⟩ ?_ ?_
    · rintro j σ H1' hj ⟨g', s', v11, rfl, gh', HA1, TH, kp, tu1⟩
      have e0 : (0 : Int) + (j : Nat) = ((j : Nat) : Int) := Int.zero_add _
      rw [e0]
      have hm' : s'.many = m := by unfold Sd.HallM.many; rw [TH.plans]; exact hpl
      have hjm : j < s'.many := by omega
      obtain ⟨dx1, hob1⟩ := HA1.ob
      rw [gh'] at hob1
      refine ⟨_, rfl, x, dx1, _, rfl, hob1, rfl, _, rfl, g', s', (j : Int), by rw [gh']; rfl, HA1, .inl ⟨j, rfl, hjm, ?_⟩⟩
      rw [(TH.fresh j (Nat.le_refl _) hjm).1]
      refine ⟨rfl, _, rfl, ?_⟩
      have lpj : (s'.plan j).length ≤ 6 := by
        unfold Sd.HallM.plan
        rw [TH.plans, List.getD_eq_getElem?_getD]
        cases hp : plans[j]? with
        | none => exact Nat.zero_le _
        | some p => exact R.short p (List.mem_of_getElem? hp)
      have most126 : Sd.sumMost s'.many (s'.plan j) ≤ 126 := by
        have := Sd.sumMost_le (m := s'.many) (by omega) (s'.plan j)
        omega
      refine ⟨fun mm σ H2 => ∃ (g2 : Sd.HallG) (s2 : Sd.HallM) (n : Nat), mm = 127 - n ∧ n ≤ 126 ∧ σ = [some (.ref a), some (.int m), some (.ref d), some (.ref wl), some (.ref pl), some (.ref D), some (.ref x), v7, some (.int far), some (.ref rw'), some (.int (at_ : Nat)), some (.int (j : Nat)), none, none] ∧ g2.ha = x ∧ Sd.HallAt A_Boxes A_Hand A_Hall H2 g2 s2 ∧ Sd.Alone s' s2 j n ∧ s2.touches.length ≤ 126 * j + n ∧ Sd.Kept1 HX H2 g g2 ∧ Sd.Tu HX H2,
        ⟨127, g', s', 0, rfl, by omega, rfl, gh', HA1, TH.alone hjm, by have := TH.now; omega, kp, tu1⟩, ?_⟩
      rintro mm σ H2 ⟨g2, s2, n, rfl, hn, rfl, gh2, HA2, AL, ht2, kp2, tu2⟩
      have hm2 : s2.many = m := by
        unfold Sd.HallM.many
        rw [AL.plans]
        exact hm'
      have hj2 : j < s2.many := by omega
      obtain ⟨dx2, hob2⟩ := HA2.ob
      rw [gh2] at hob2
      refine ⟨_, rfl, x, dx2, _, rfl, hob2, rfl, _, rfl, g2, s2, (j : Int), by rw [gh2]; rfl, HA2, .inl ⟨j, rfl, hj2, AL.fine.ok (by omega), fun g3 H3' HA3 G3 O3 => ⟨_, rfl, ?_⟩⟩⟩
      have kp3 : Sd.Kept1 HX H3' g g3 := fun y o e n => by
        obtain ⟨k1, k2⟩ := kp2 y o e n
        exact ⟨O3 _ _ k2 k1, G3.nin k1 k2⟩
      have tu3 := tu2.trans (Sd.Tu.off O3 HA2.noTup)
      cases hst : s2.stepped j with
      | none =>
        refine ite2 (fun c => absurd c (by decide)) (fun _ => ?_)
        have e1 : s2.step j = s2 := by unfold Sd.HallM.step; rw [hst]; rfl
        rw [e1] at HA3
        exact ⟨g3, s2, some (.int (j : Nat)), rfl, G3.1.trans gh2, HA3, TH.next hjm AL hn ht2 hst, kp3, tu3⟩
      | some s4 =>
        refine ite2 (fun _ => ?_) (fun c => absurd (show true = true from rfl) c)
        refine ⟨_, fun σ' H' z => z, ?_⟩
        have e1 : s2.step j = s4 := by unfold Sd.HallM.step; rw [hst]; rfl
        have h30 := AL.fine.steps30 hj2 hst
        have tst := Sd.step_touches s2 j
        have ALs := AL.step hj2
        rw [e1] at HA3 tst ALs
        have hn1 : n + 1 ≤ 126 := by
          cases hd : (s2.plan j)[(s2.hand j).ended]? with
          | none => rw [(Sd.stepped_none hd).1] at hst; cases hst
          | some dd =>
            have h1 := AL.lt hj2 hd
            have h2 : Sd.sumMost s2.many (s2.plan j) = Sd.sumMost s'.many (s'.plan j) := by
              rw [hm2, hm']
              unfold Sd.HallM.plan
              rw [AL.plans]
            omega
        have hm4 : s4.many = m := by
          unfold Sd.HallM.many
          rw [ALs.plans]
          exact hm'
        obtain ⟨dx3, hob3⟩ := HA3.ob
        rw [G3.1, gh2] at hob3
        refine ⟨_, rfl, x, dx3, _, rfl, hob3, rfl, _, rfl, g3, s4, (j : Int), by rw [G3.1, gh2]; rfl, HA3, .inl ⟨j, rfl, by omega, ?_⟩⟩
        refine ⟨_, _, rfl, rfl, _, rfl, ?_⟩
        refine ite2 (fun c => absurd (of_decide_eq_true c) (by omega)) (fun _ => ?_)
        exact ⟨127 - (n + 1), by omega, g3, s4, n + 1, rfl, hn1, rfl, G3.1.trans gh2, HA3, ALs, by omega, kp3, tu3⟩
    rintro σ HY ⟨g', s', v11, rfl, gh', HAY, TH, kp, tuY⟩
    have hmY : s'.many = m := by unfold Sd.HallM.many; rw [TH.plans]; exact hpl
    have hdeeds := TH.deeds (by omega) (by omega)
    have lrec := TH.fine.recsOk.2.1
    -- what was planned
    obtain ⟨dxY, hobY⟩ := HAY.ob
    rw [gh'] at hobY
    refine ⟨_, rfl, x, dxY, _, rfl, hobY, rfl, g', s', by rw [gh']; rfl, HAY, fun rl rvs hrl hrv => ?_⟩
    have sR := Sd.Same.new (o := .lst rvs) hrl
    have cR : upd HY rl (.lst rvs) rl = some (.lst rvs) := upd_same
    have pR : Paired (Sd.RecAt (upd HY rl (.lst rvs))) rvs s'.recs := Sd.Paired.mapM hrv fun y _ z e => e.tu (Sd.Tu.same sR)
    generalize upd HY rl (.lst rvs) = HR2 at sR cR pR ⊢
    have lR := Sd.Paired.len pR
    refine ⟨rl, rfl, ⟨_, SqL.of cR⟩, fun Da hDa => ?_⟩
    refine lc_list (K := K) (xs := rvs) (fun k H' => Same HR2 H' ∧ ∃ ps : List Addr, H' Da = some (.lst (ps.map V.ref)) ∧ Sd.PlanAt H' ps (((s'.recs.take k).filter fun r => r.hand == 0).map (·.deed))) ⟨Sd.Same.new hDa, [], upd_same, .nil⟩ (fun k H' _ h => SqL.of (h.1 _ _ cR)) ?_ ?_
    · rintro k z H2 hz ⟨s2, ps, hacc, hp⟩
      obtain ⟨r, hr, rp, dp, av, rfl, h3, h4, h5⟩ := Sd.Paired.get2 pR hz
      obtain ⟨b1, b2⟩ := List.getElem?_eq_some_iff.mp hr
      have htk : s'.recs.take (k + 1) = s'.recs.take k ++ [r] := by rw [List.take_succ_eq_append_getElem b1, b2]
      refine ⟨rfl, _, rfl, rp, _, _, _, rfl, rfl, SqT.of (s2 _ _ h3), atI_nat (j := 0) rfl, rfl, _, rfl, ?_⟩
      rw [htk, List.filter_append, List.map_append]
      have la : ps.length ≤ 160 := by
        rw [Sd.Paired.len hp, List.length_map]
        exact Nat.le_trans (List.length_filter_le _ _) (by rw [List.length_take]; omega)
      by_cases c : r.hand = 0
      · rw [decide_eq_true (show V.int (r.hand : Int) = V.int 0 by rw [c]; rfl), List.filter_cons_of_pos (by rw [beq_iff_eq]; exact c)]
        refine ⟨_, rfl, rp, _, _, _, rfl, rfl, SqT.of (s2 _ _ h3), atI_nat (j := 1) rfl, _, hacc, by rw [List.length_map]; exact Nat.lt_of_le_of_lt la (by decide), upd_same' s2 hDa, ps ++ [dp], by rw [upd_same, List.map_append]; rfl, ?_⟩
        have tu : Sd.Tu H2 (upd H2 Da (.lst (ps.map V.ref ++ [.ref dp]))) := Sd.Tu.upd fun xs e => by rw [hacc] at e; cases e
        exact Sd.Paired.app (hp.tu tu) (tu _ _ (s2 _ _ h4))
      · rw [decide_eq_false (fun z => c (by injection z with z; omega)), List.filter_cons_of_neg (by rw [beq_iff_eq]; exact c), List.filter_nil, List.map_nil, List.append_nil]
        exact ⟨s2, ps, hacc, hp⟩
    rintro H2 ⟨s2, ps, hacc, hp⟩
    rw [lR, List.take_length, hdeeds] at hp
    have nplg : pl ∉ g.list ∧ ∀ l ∈ ls, l ∉ g.list := by
      refine ⟨fun mm => ?_, fun l hl mm => ?_⟩
      · have := gf pl mm
        rw [s34 _ _ R.hpl] at this
        cases this
      · have := gf l mm
        obtain ⟨k, hk⟩ := List.getElem?_of_mem hl
        obtain ⟨_, _, hh⟩ := Sd.Paired.get2 R.hls hk
        rw [s34 _ _ hh] at this
        cases this
    have hplX := (kp pl _ (sQX _ _ hplQ) nplg.1).1
    have l0 : ls[0]? = some (ls[0]'(by omega)) := List.getElem?_eq_getElem _
    generalize ls[0]'(by omega) = lz at l0
    obtain ⟨ps0, hps0, hl0⟩ := Sd.Paired.get2 hlsQ l0
    obtain ⟨p0, hp0, hP0⟩ := Sd.Paired.get2 hpsQ hps0
    have hl0X := (kp lz _ (sQX _ _ hl0) (nplg.2 lz (List.mem_of_getElem? l0))).1
    have e0p : plans.getD 0 [] = p0 := by rw [List.getD_eq_getElem?_getD, hp0]; rfl
    rw [e0p] at hp
    have sR2 := sR.trans s2
    refine ⟨_, rfl, pl, _, _, _, rfl, rfl, SqL.of (sR2 _ _ hplX), atI_nat (j := 0) (by rw [List.getElem?_map, l0]; rfl), ?_⟩
    refine ⟨Sd.planD p0, Sd.planD p0, .lst (SqL.of hacc) (Sd.dp_plan hp), .lst (SqL.of (sR2 _ _ hl0X)) (Sd.dp_plan ((hP0.tu (Sd.Tu.same sQX)).tu (tuY.trans (Sd.Tu.same sR2)))), Sd.planD_shaped _, Sd.planD_shaped _, ?_⟩
    rw [SeqAt.eqv_refl _ (Sd.planD_lay _)]
    exact q H2
  obtain ⟨t, h1, h2⟩ := main
  exact ⟨t, h1.nox, h2⟩
end


theorem all_mk {l : PySem.W.OpenLaw} {w : World} {K : PySem.W.Frag} {h : Heap} {mg : Str → Option Value} {fa f1 f2 f3 f4 f5 f6 f7 f8 f9 f10 f11 f12 f13 f14 f15 f16 f17 f18 f19 f20 f21 f22 f23 f24 f25 f26 f27 f28 f29 f30 f31 f32 f33 f34 f35 f36 f37 f38 f39 f40 f41 f42 f43 A_Boxes A_Hand A_Hall A_HandsError A_NoNumber A_NoBox A_NoHand A_NoDeed A_THING_OF A_WITH_A_NUMBER A_TELLING : Addr} {tG tH tD tT tC tL tV tM : Tok} (X : K.In h) (G : h.Ns mainGlobals mg) (hfa : mg "law" = some (.ref fa))
    {od1 an1 od2 an2 od3 an3 od4 an4 od5 an5 od6 an6 od7 an7 od8 an8 od9 an9 od10 an10 od11 an11 od12 an12 od13 an13 od14 an14 od15 an15 od16 an16 od17 an17 od18 an18 od19 an19 od20 an20 od21 an21 od22 an22 od23 an23 od24 an24 od25 an25 od26 an26 od27 an27 od28 an28 od29 an29 od30 an30 od31 an31 od32 an32 od33 an33 od34 an34 od35 an35 od36 an36 od37 an37 od38 an38 od39 an39 od40 an40 od41 an41 od42 an42 od43 an43 : Option Addr} {sl1 sl2 sl3 sl4 sl5 sl6 sl7 sl8 sl9 sl10 sl11 sl12 sl13 sl14 sl15 sl16 sl17 sl18 sl19 sl20 sl21 sl22 sl23 sl24 sl25 sl26 sl27 sl28 sl29 sl30 sl31 sl32 sl33 sl34 sl35 sl36 sl37 sl38 sl39 sl40 sl41 sl42 sl43 : Array (Option Value)} {oc1 kV1 dc1 pm1 cd1 ct1 oc2 kV2 dc2 pm2 cd2 ct2 oc3 kV3 dc3 pm3 cd3 ct3 oc4 kV4 dc4 pm4 cd4 ct4 oc5 kV5 dc5 pm5 cd5 ct5 oc6 kV6 dc6 pm6 cd6 ct6 oc7 kV7 dc7 pm7 cd7 ct7 oc8 kV8 dc8 pm8 cd8 ct8 oc9 kV9 dc9 pm9 cd9 ct9 oc10 kV10 dc10 pm10 cd10 ct10 oc11 kV11 dc11 pm11 cd11 ct11 oc12 kV12 dc12 pm12 cd12 ct12 oc13 kV13 dc13 pm13 cd13 ct13 oc14 kV14 dc14 pm14 cd14 ct14 oc15 kV15 dc15 pm15 cd15 ct15 oc16 kV16 dc16 pm16 cd16 ct16 oc17 kV17 dc17 pm17 cd17 ct17 oc18 kV18 dc18 pm18 cd18 ct18 oc19 kV19 dc19 pm19 cd19 ct19 oc20 kV20 dc20 pm20 cd20 ct20 oc21 kV21 dc21 pm21 cd21 ct21 oc22 kV22 dc22 pm22 cd22 ct22 oc23 kV23 dc23 pm23 cd23 ct23 oc24 kV24 dc24 pm24 cd24 ct24 oc25 kV25 dc25 pm25 cd25 ct25 oc26 kV26 dc26 pm26 cd26 ct26 oc27 kV27 dc27 pm27 cd27 ct27 oc28 kV28 dc28 pm28 cd28 ct28 oc29 kV29 dc29 pm29 cd29 ct29 oc30 kV30 dc30 pm30 cd30 ct30 oc31 kV31 dc31 pm31 cd31 ct31 oc32 kV32 dc32 pm32 cd32 ct32 oc33 kV33 dc33 pm33 cd33 ct33 oc34 kV34 dc34 pm34 cd34 ct34 oc35 kV35 dc35 pm35 cd35 ct35 oc36 kV36 dc36 pm36 cd36 ct36 oc37 kV37 dc37 pm37 cd37 ct37 oc38 kV38 dc38 pm38 cd38 ct38 oc39 kV39 dc39 pm39 cd39 ct39 oc40 kV40 dc40 pm40 cd40 ct40 oc41 kV41 dc41 pm41 cd41 ct41 oc42 kV42 dc42 pm42 cd42 ct42 oc43 kV43 dc43 pm43 ct43 : Value} {cL PL : Addr} {ddL : Option Addr} {vsL : Array Value} {slL : Array (Option Value)}
    {es_THING_OF : Array DictEntry} {ne_THING_OF : Nat} {tk_THING_OF_0 tk_THING_OF_1 tk_THING_OF_2 tk_THING_OF_3 tk_THING_OF_4 tk_THING_OF_5 tk_THING_OF_6 tk_THING_OF_7 tk_THING_OF_8 tk_THING_OF_9 : Tok}
    {dd_WITH_A_NUMBER : Option Addr} {nn_WITH_A_NUMBER : Nat} {sl_WITH_A_NUMBER : Array (Option Value)} {tk_WITH_A_NUMBER_0 tk_WITH_A_NUMBER_1 tk_WITH_A_NUMBER_2 tk_WITH_A_NUMBER_3 : Tok}
    {dd_TELLING : Option Addr} {nn_TELLING : Nat} {sl_TELLING : Array (Option Value)} {tk_TELLING_0 tk_TELLING_1 tk_TELLING_2 tk_TELLING_3 : Tok}
    (a_Boxes : PySem.W.nsIn K mainGlobals "Boxes" = some (some (.ref A_Boxes)))
    (a_Hand : PySem.W.nsIn K mainGlobals "Hand" = some (some (.ref A_Hand)))
    (a_Hall : PySem.W.nsIn K mainGlobals "Hall" = some (some (.ref A_Hall)))
    (a_HandsError : PySem.W.nsIn K mainGlobals "HandsError" = some (some (.ref A_HandsError)))
    (a_NoNumber : PySem.W.nsIn K mainGlobals "NoNumber" = some (some (.ref A_NoNumber)))
    (a_NoBox : PySem.W.nsIn K mainGlobals "NoBox" = some (some (.ref A_NoBox)))
    (a_NoHand : PySem.W.nsIn K mainGlobals "NoHand" = some (some (.ref A_NoHand)))
    (a_NoDeed : PySem.W.nsIn K mainGlobals "NoDeed" = some (some (.ref A_NoDeed)))
    (a_THING_OF : PySem.W.nsIn K mainGlobals "THING_OF" = some (some (.ref A_THING_OF)))
    (l_THING_OF : K.lookup A_THING_OF = some ⟨.type "dict", none, .dict es_THING_OF ne_THING_OF, #[]⟩)
    (kk_THING_OF : PySem.W.KeysLit w.params es_THING_OF.toList)
    (lo_THING_OF : (A_THING_OF == sysModules) = false)
    (v0_THING_OF : PySem.W.nsIn K A_THING_OF "one" = some (some (.int 0 tk_THING_OF_0)))
    (v1_THING_OF : PySem.W.nsIn K A_THING_OF "count" = some (some (.int 0 tk_THING_OF_1)))
    (v2_THING_OF : PySem.W.nsIn K A_THING_OF "set" = some (some (.int 1 tk_THING_OF_2)))
    (v3_THING_OF : PySem.W.nsIn K A_THING_OF "look" = some (some (.int 1 tk_THING_OF_3)))
    (v4_THING_OF : PySem.W.nsIn K A_THING_OF "add" = some (some (.int 2 tk_THING_OF_4)))
    (v5_THING_OF : PySem.W.nsIn K A_THING_OF "sum" = some (some (.int 2 tk_THING_OF_5)))
    (v6_THING_OF : PySem.W.nsIn K A_THING_OF "raise" = some (some (.int 3 tk_THING_OF_6)))
    (v7_THING_OF : PySem.W.nsIn K A_THING_OF "top" = some (some (.int 3 tk_THING_OF_7)))
    (v8_THING_OF : PySem.W.nsIn K A_THING_OF "give" = some (some (.int 4 tk_THING_OF_8)))
    (v9_THING_OF : PySem.W.nsIn K A_THING_OF "take" = some (some (.int 4 tk_THING_OF_9)))
    (w0_THING_OF : PySem.W.nsIn K A_THING_OF "ones" = some none)
    (w1_THING_OF : PySem.W.nsIn K A_THING_OF "" = some none)
    (w2_THING_OF : PySem.W.nsIn K A_THING_OF "Set" = some none)
    (w3_THING_OF : PySem.W.nsIn K A_THING_OF "two" = some none)
    (a_WITH_A_NUMBER : PySem.W.nsIn K mainGlobals "WITH_A_NUMBER" = some (some (.ref A_WITH_A_NUMBER)))
    (l_WITH_A_NUMBER : K.lookup A_WITH_A_NUMBER = some ⟨.type "tuple", dd_WITH_A_NUMBER, .seq #[.str "set" tk_WITH_A_NUMBER_0, .str "add" tk_WITH_A_NUMBER_1, .str "raise" tk_WITH_A_NUMBER_2, .str "give" tk_WITH_A_NUMBER_3] nn_WITH_A_NUMBER, sl_WITH_A_NUMBER⟩)
    (a_TELLING : PySem.W.nsIn K mainGlobals "TELLING" = some (some (.ref A_TELLING)))
    (l_TELLING : K.lookup A_TELLING = some ⟨.type "tuple", dd_TELLING, .seq #[.str "count" tk_TELLING_0, .str "look" tk_TELLING_1, .str "sum" tk_TELLING_2, .str "top" tk_TELLING_3] nn_TELLING, sl_TELLING⟩)
    (x_NoHand : PySem.W.excIn K A_NoHand [.type "ValueError", .type "Exception", .type "BaseException", .type "object"] "ValueError.__new__" = true)
    (k_NoHand : PySem.W.keepIn K (.ref A_NoHand) = true)
    (b_NoHand : PySem.W.subIn K (.ref A_NoHand) (.type "BaseException") = some true)
    (t_NoHand : PySem.W.typeIn K (.ref A_NoHand) = some (.type "type"))
    (bS_NoHand : PySem.W.subIn K (.ref A_HandsError) (.type "BaseException") = some true)
    (hS_NoHand : PySem.W.hasDictIn K A_HandsError = true)
    (tS_NoHand : PySem.W.typeIn K (.ref A_HandsError) = some (.type "type"))
    (u_NoHand : PySem.W.subIn K (.ref A_NoHand) (.ref A_HandsError) = some true)
    (e1_NoHand : PySem.W.findIn K (.ref A_NoHand) "__getattribute__" = some (some (.builtin "BaseException.__getattribute__")))
    (e2_NoHand : PySem.W.findIn K (.ref A_NoHand) "__getattr__" = some none)
    (e3_NoHand : PySem.W.hasDictIn K A_NoHand = true)
    (e4_NoHand : PySem.W.findIn K (.ref A_NoHand) "__class__" = some (some (.builtin "object.__class__")))
    (e5_NoHand : PySem.W.specialIn K (.builtin "object.__class__") "__get__" = some (some (.builtin "getset_descriptor.__get__")))
    (e6_NoHand : PySem.W.takesIn K (.builtin "object.__class__") = some true)
    (e7_NoHand : PySem.W.mroIn K A_NoHand (.type "object") = some true)
    (me_NoHand : PySem.W.kitOne K (.ref A_NoHand) (.ref A_NoHand) = some true)
    (ve_NoHand : PySem.W.kitOne K (.ref A_NoHand) (.type "ValueError") = some true)
    (su_NoHand : PySem.W.kitOne K (.ref A_NoHand) (.ref A_HandsError) = some true)
    (no_NoHand_NoBox : PySem.W.kitOne K (.ref A_NoHand) (.ref A_NoBox) = some false)
    (no_NoHand_NoNumber : PySem.W.kitOne K (.ref A_NoHand) (.ref A_NoNumber) = some false)
    (no_NoHand_NoDeed : PySem.W.kitOne K (.ref A_NoHand) (.ref A_NoDeed) = some false)
    (x_NoDeed : PySem.W.excIn K A_NoDeed [.type "ValueError", .type "Exception", .type "BaseException", .type "object"] "ValueError.__new__" = true)
    (k_NoDeed : PySem.W.keepIn K (.ref A_NoDeed) = true)
    (b_NoDeed : PySem.W.subIn K (.ref A_NoDeed) (.type "BaseException") = some true)
    (t_NoDeed : PySem.W.typeIn K (.ref A_NoDeed) = some (.type "type"))
    (bS_NoDeed : PySem.W.subIn K (.ref A_HandsError) (.type "BaseException") = some true)
    (hS_NoDeed : PySem.W.hasDictIn K A_HandsError = true)
    (tS_NoDeed : PySem.W.typeIn K (.ref A_HandsError) = some (.type "type"))
    (u_NoDeed : PySem.W.subIn K (.ref A_NoDeed) (.ref A_HandsError) = some true)
    (e1_NoDeed : PySem.W.findIn K (.ref A_NoDeed) "__getattribute__" = some (some (.builtin "BaseException.__getattribute__")))
    (e2_NoDeed : PySem.W.findIn K (.ref A_NoDeed) "__getattr__" = some none)
    (e3_NoDeed : PySem.W.hasDictIn K A_NoDeed = true)
    (e4_NoDeed : PySem.W.findIn K (.ref A_NoDeed) "__class__" = some (some (.builtin "object.__class__")))
    (e5_NoDeed : PySem.W.specialIn K (.builtin "object.__class__") "__get__" = some (some (.builtin "getset_descriptor.__get__")))
    (e6_NoDeed : PySem.W.takesIn K (.builtin "object.__class__") = some true)
    (e7_NoDeed : PySem.W.mroIn K A_NoDeed (.type "object") = some true)
    (me_NoDeed : PySem.W.kitOne K (.ref A_NoDeed) (.ref A_NoDeed) = some true)
    (ve_NoDeed : PySem.W.kitOne K (.ref A_NoDeed) (.type "ValueError") = some true)
    (su_NoDeed : PySem.W.kitOne K (.ref A_NoDeed) (.ref A_HandsError) = some true)
    (a1 : PySem.W.nsIn K mainGlobals "_law_cell" = some (some (.ref f1)))
    (l1 : K.lookup f1 = some ⟨oc1, od1, .func (PySem.W.fnOf "_law_cell" "_law_cell" (defArgs s_l_cell) (defBody s_l_cell) (defScope s_l_cell) .none kV1 dc1 pm1 an1 cd1 ct1), sl1⟩)
    (c1 : PySem.W.codeIn K cd1 "_law_cell" = true)
    (k1 : PySem.W.keepIn K (.ref f1) = true)
    (a2 : PySem.W.nsIn K mainGlobals "_law_dice" = some (some (.ref f2)))
    (l2 : K.lookup f2 = some ⟨oc2, od2, .func (PySem.W.fnOf "_law_dice" "_law_dice" (defArgs s_l_dice) (defBody s_l_dice) (defScope s_l_dice) .none kV2 dc2 pm2 an2 cd2 ct2), sl2⟩)
    (c2 : PySem.W.codeIn K cd2 "_law_dice" = true)
    (k2 : PySem.W.keepIn K (.ref f2) = true)
    (a3 : PySem.W.nsIn K mainGlobals "_law_off" = some (some (.ref f3)))
    (l3 : K.lookup f3 = some ⟨oc3, od3, .func (PySem.W.fnOf "_law_off" "_law_off" (defArgs s_l_off) (defBody s_l_off) (defScope s_l_off) .none kV3 dc3 pm3 an3 cd3 ct3), sl3⟩)
    (c3 : PySem.W.codeIn K cd3 "_law_off" = true)
    (k3 : PySem.W.keepIn K (.ref f3) = true)
    (a4 : PySem.W.nsIn K mainGlobals "_law_deed" = some (some (.ref f4)))
    (l4 : K.lookup f4 = some ⟨oc4, od4, .func (PySem.W.fnOf "_law_deed" "_law_deed" (defArgs s_l_deed) (defBody s_l_deed) (defScope s_l_deed) .none kV4 dc4 pm4 an4 cd4 ct4), sl4⟩)
    (c4 : PySem.W.codeIn K cd4 "_law_deed" = true)
    (k4 : PySem.W.keepIn K (.ref f4) = true)
    (a5 : PySem.W.nsIn K mainGlobals "_need_number" = some (some (.ref f5)))
    (l5 : K.lookup f5 = some ⟨oc5, od5, .func (PySem.W.fnOf "_need_number" "_need_number" (defArgs s__need_number) (defBody s__need_number) (defScope s__need_number) .none kV5 dc5 pm5 an5 cd5 ct5), sl5⟩)
    (c5 : PySem.W.codeIn K cd5 "_need_number" = true)
    (k5 : PySem.W.keepIn K (.ref f5) = true)
    (a6 : PySem.W.nsIn K mainGlobals "need_deed" = some (some (.ref f6)))
    (l6 : K.lookup f6 = some ⟨oc6, od6, .func (PySem.W.fnOf "need_deed" "need_deed" (defArgs s_need_deed) (defBody s_need_deed) (defScope s_need_deed) .none kV6 dc6 pm6 an6 cd6 ct6), sl6⟩)
    (c6 : PySem.W.codeIn K cd6 "need_deed" = true)
    (k6 : PySem.W.keepIn K (.ref f6) = true)
    (a7 : PySem.W.nsIn K mainGlobals "_need_plans" = some (some (.ref f7)))
    (l7 : K.lookup f7 = some ⟨oc7, od7, .func (PySem.W.fnOf "_need_plans" "_need_plans" (defArgs s__need_plans) (defBody s__need_plans) (defScope s__need_plans) .none kV7 dc7 pm7 an7 cd7 ct7), sl7⟩)
    (c7 : PySem.W.codeIn K cd7 "_need_plans" = true)
    (k7 : PySem.W.keepIn K (.ref f7) = true)
    (a8 : PySem.W.findIn K (.ref A_Boxes) "__init__" = some (some (.ref f8)))
    (i8 : PySem.W.isFn K (.ref f8) = true)
    (l8 : K.lookup f8 = some ⟨oc8, od8, .func (PySem.W.fnOf "__init__" "Boxes.__init__" (defArgs s_Boxes__init_) (defBody s_Boxes__init_) (defScope s_Boxes__init_) .none kV8 dc8 pm8 an8 cd8 ct8), sl8⟩)
    (c8 : PySem.W.codeIn K cd8 "Boxes.__init__" = true)
    (k8 : PySem.W.keepIn K (.ref f8) = true)
    (a9 : PySem.W.findIn K (.ref A_Hand) "__init__" = some (some (.ref f9)))
    (i9 : PySem.W.isFn K (.ref f9) = true)
    (l9 : K.lookup f9 = some ⟨oc9, od9, .func (PySem.W.fnOf "__init__" "Hand.__init__" (defArgs s_Hand__init_) (defBody s_Hand__init_) (defScope s_Hand__init_) .none kV9 dc9 pm9 an9 cd9 ct9), sl9⟩)
    (c9 : PySem.W.codeIn K cd9 "Hand.__init__" = true)
    (k9 : PySem.W.keepIn K (.ref f9) = true)
    (a10 : PySem.W.findIn K (.ref A_Hall) "__init__" = some (some (.ref f10)))
    (i10 : PySem.W.isFn K (.ref f10) = true)
    (l10 : K.lookup f10 = some ⟨oc10, od10, .func (PySem.W.fnOf "__init__" "Hall.__init__" (defArgs s_Hall__init_) (defBody s_Hall__init_) (defScope s_Hall__init_) .none kV10 dc10 pm10 an10 cd10 ct10), sl10⟩)
    (c10 : PySem.W.codeIn K cd10 "Hall.__init__" = true)
    (k10 : PySem.W.keepIn K (.ref f10) = true)
    (a11 : PySem.W.findIn K (.ref A_Hall) "records" = some (some (.ref f11)))
    (i11 : PySem.W.isFn K (.ref f11) = true)
    (l11 : K.lookup f11 = some ⟨oc11, od11, .func (PySem.W.fnOf "records" "Hall.records" (defArgs s_Hall_records) (defBody s_Hall_records) (defScope s_Hall_records) .none kV11 dc11 pm11 an11 cd11 ct11), sl11⟩)
    (c11 : PySem.W.codeIn K cd11 "Hall.records" = true)
    (k11 : PySem.W.keepIn K (.ref f11) = true)
    (a12 : PySem.W.nsIn K mainGlobals "packed" = some (some (.ref f12)))
    (l12 : K.lookup f12 = some ⟨oc12, od12, .func (PySem.W.fnOf "packed" "packed" (defArgs s_packed) (defBody s_packed) (defScope s_packed) .none kV12 dc12 pm12 an12 cd12 ct12), sl12⟩)
    (c12 : PySem.W.codeIn K cd12 "packed" = true)
    (k12 : PySem.W.keepIn K (.ref f12) = true)
    (a13 : PySem.W.nsIn K mainGlobals "parted" = some (some (.ref f13)))
    (l13 : K.lookup f13 = some ⟨oc13, od13, .func (PySem.W.fnOf "parted" "parted" (defArgs s_parted) (defBody s_parted) (defScope s_parted) .none kV13 dc13 pm13 an13 cd13 ct13), sl13⟩)
    (c13 : PySem.W.codeIn K cd13 "parted" = true)
    (k13 : PySem.W.keepIn K (.ref f13) = true)
    (a14 : PySem.W.nsIn K mainGlobals "counter_outcome" = some (some (.ref f14)))
    (l14 : K.lookup f14 = some ⟨oc14, od14, .func (PySem.W.fnOf "counter_outcome" "counter_outcome" (defArgs s_counter_outcome) (defBody s_counter_outcome) (defScope s_counter_outcome) .none kV14 dc14 pm14 an14 cd14 ct14), sl14⟩)
    (c14 : PySem.W.codeIn K cd14 "counter_outcome" = true)
    (k14 : PySem.W.keepIn K (.ref f14) = true)
    (a15 : PySem.W.nsIn K mainGlobals "_row" = some (some (.ref f15)))
    (l15 : K.lookup f15 = some ⟨oc15, od15, .func (PySem.W.fnOf "_row" "_row" (defArgs s__row) (defBody s__row) (defScope s__row) .none kV15 dc15 pm15 an15 cd15 ct15), sl15⟩)
    (c15 : PySem.W.codeIn K cd15 "_row" = true)
    (k15 : PySem.W.keepIn K (.ref f15) = true)
    (a16 : PySem.W.nsIn K mainGlobals "_cell_behind" = some (some (.ref f16)))
    (l16 : K.lookup f16 = some ⟨oc16, od16, .func (PySem.W.fnOf "_cell_behind" "_cell_behind" (defArgs s__cell_behind) (defBody s__cell_behind) (defScope s__cell_behind) .none kV16 dc16 pm16 an16 cd16 ct16), sl16⟩)
    (c16 : PySem.W.codeIn K cd16 "_cell_behind" = true)
    (k16 : PySem.W.keepIn K (.ref f16) = true)
    (a17 : PySem.W.nsIn K mainGlobals "_left" = some (some (.ref f17)))
    (l17 : K.lookup f17 = some ⟨oc17, od17, .func (PySem.W.fnOf "_left" "_left" (defArgs s__left) (defBody s__left) (defScope s__left) .none kV17 dc17 pm17 an17 cd17 ct17), sl17⟩)
    (c17 : PySem.W.codeIn K cd17 "_left" = true)
    (k17 : PySem.W.keepIn K (.ref f17) = true)
    (a18 : PySem.W.nsIn K mainGlobals "_given" = some (some (.ref f18)))
    (l18 : K.lookup f18 = some ⟨oc18, od18, .func (PySem.W.fnOf "_given" "_given" (defArgs s__given) (defBody s__given) (defScope s__given) .none kV18 dc18 pm18 an18 cd18 ct18), sl18⟩)
    (c18 : PySem.W.codeIn K cd18 "_given" = true)
    (k18 : PySem.W.keepIn K (.ref f18) = true)
    (a19 : PySem.W.nsIn K mainGlobals "line_outcome" = some (some (.ref f19)))
    (l19 : K.lookup f19 = some ⟨oc19, od19, .func (PySem.W.fnOf "line_outcome" "line_outcome" (defArgs s_line_outcome) (defBody s_line_outcome) (defScope s_line_outcome) .none kV19 dc19 pm19 an19 cd19 ct19), sl19⟩)
    (c19 : PySem.W.codeIn K cd19 "line_outcome" = true)
    (k19 : PySem.W.keepIn K (.ref f19) = true)
    (a20 : PySem.W.nsIn K mainGlobals "_view" = some (some (.ref f20)))
    (l20 : K.lookup f20 = some ⟨oc20, od20, .func (PySem.W.fnOf "_view" "_view" (defArgs s__view) (defBody s__view) (defScope s__view) .none kV20 dc20 pm20 an20 cd20 ct20), sl20⟩)
    (c20 : PySem.W.codeIn K cd20 "_view" = true)
    (k20 : PySem.W.keepIn K (.ref f20) = true)
    (a21 : PySem.W.nsIn K mainGlobals "picture_outcome" = some (some (.ref f21)))
    (l21 : K.lookup f21 = some ⟨oc21, od21, .func (PySem.W.fnOf "picture_outcome" "picture_outcome" (defArgs s_picture_outcome) (defBody s_picture_outcome) (defScope s_picture_outcome) .none kV21 dc21 pm21 an21 cd21 ct21), sl21⟩)
    (c21 : PySem.W.codeIn K cd21 "picture_outcome" = true)
    (k21 : PySem.W.keepIn K (.ref f21) = true)
    (a22 : PySem.W.findIn K (.ref A_Boxes) "_need" = some (some (.ref f22)))
    (i22 : PySem.W.isFn K (.ref f22) = true)
    (l22 : K.lookup f22 = some ⟨oc22, od22, .func (PySem.W.fnOf "_need" "Boxes._need" (defArgs s_Boxes_need) (defBody s_Boxes_need) (defScope s_Boxes_need) .none kV22 dc22 pm22 an22 cd22 ct22), sl22⟩)
    (c22 : PySem.W.codeIn K cd22 "Boxes._need" = true)
    (k22 : PySem.W.keepIn K (.ref f22) = true)
    (a23 : PySem.W.findIn K (.ref A_Boxes) "take" = some (some (.ref f23)))
    (i23 : PySem.W.isFn K (.ref f23) = true)
    (l23 : K.lookup f23 = some ⟨oc23, od23, .func (PySem.W.fnOf "take" "Boxes.take" (defArgs s_Boxes_take) (defBody s_Boxes_take) (defScope s_Boxes_take) .none kV23 dc23 pm23 an23 cd23 ct23), sl23⟩)
    (c23 : PySem.W.codeIn K cd23 "Boxes.take" = true)
    (k23 : PySem.W.keepIn K (.ref f23) = true)
    (a24 : PySem.W.findIn K (.ref A_Boxes) "put" = some (some (.ref f24)))
    (i24 : PySem.W.isFn K (.ref f24) = true)
    (l24 : K.lookup f24 = some ⟨oc24, od24, .func (PySem.W.fnOf "put" "Boxes.put" (defArgs s_Boxes_put) (defBody s_Boxes_put) (defScope s_Boxes_put) .none kV24 dc24 pm24 an24 cd24 ct24), sl24⟩)
    (c24 : PySem.W.codeIn K cd24 "Boxes.put" = true)
    (k24 : PySem.W.keepIn K (.ref f24) = true)
    (a25 : PySem.W.findIn K (.ref A_Hand) "is_through" = some (some (.ref f25)))
    (i25 : PySem.W.isFn K (.ref f25) = true)
    (l25 : K.lookup f25 = some ⟨oc25, od25, .func (PySem.W.fnOf "is_through" "Hand.is_through" (defArgs s_Hand_is_through) (defBody s_Hand_is_through) (defScope s_Hand_is_through) .none kV25 dc25 pm25 an25 cd25 ct25), sl25⟩)
    (c25 : PySem.W.codeIn K cd25 "Hand.is_through" = true)
    (k25 : PySem.W.keepIn K (.ref f25) = true)
    (a26 : PySem.W.findIn K (.ref A_Hand) "_outcome_of" = some (some (.ref f26)))
    (i26 : PySem.W.isFn K (.ref f26) = true)
    (l26 : K.lookup f26 = some ⟨oc26, od26, .func (PySem.W.fnOf "_outcome_of" "Hand._outcome_of" (defArgs s_Hand_outcome_of) (defBody s_Hand_outcome_of) (defScope s_Hand_outcome_of) .none kV26 dc26 pm26 an26 cd26 ct26), sl26⟩)
    (c26 : PySem.W.codeIn K cd26 "Hand._outcome_of" = true)
    (k26 : PySem.W.keepIn K (.ref f26) = true)
    (a27 : PySem.W.findIn K (.ref A_Hand) "_keep" = some (some (.ref f27)))
    (i27 : PySem.W.isFn K (.ref f27) = true)
    (l27 : K.lookup f27 = some ⟨oc27, od27, .func (PySem.W.fnOf "_keep" "Hand._keep" (defArgs s_Hand_keep) (defBody s_Hand_keep) (defScope s_Hand_keep) .none kV27 dc27 pm27 an27 cd27 ct27), sl27⟩)
    (c27 : PySem.W.codeIn K cd27 "Hand._keep" = true)
    (k27 : PySem.W.keepIn K (.ref f27) = true)
    (a28 : PySem.W.findIn K (.ref A_Hand) "_end" = some (some (.ref f28)))
    (i28 : PySem.W.isFn K (.ref f28) = true)
    (l28 : K.lookup f28 = some ⟨oc28, od28, .func (PySem.W.fnOf "_end" "Hand._end" (defArgs s_Hand_end) (defBody s_Hand_end) (defScope s_Hand_end) .none kV28 dc28 pm28 an28 cd28 ct28), sl28⟩)
    (c28 : PySem.W.codeIn K cd28 "Hand._end" = true)
    (k28 : PySem.W.keepIn K (.ref f28) = true)
    (a29 : PySem.W.findIn K (.ref A_Hand) "step" = some (some (.ref f29)))
    (i29 : PySem.W.isFn K (.ref f29) = true)
    (l29 : K.lookup f29 = some ⟨oc29, od29, .func (PySem.W.fnOf "step" "Hand.step" (defArgs s_Hand_step) (defBody s_Hand_step) (defScope s_Hand_step) .none kV29 dc29 pm29 an29 cd29 ct29), sl29⟩)
    (c29 : PySem.W.codeIn K cd29 "Hand.step" = true)
    (k29 : PySem.W.keepIn K (.ref f29) = true)
    (a30 : PySem.W.findIn K (.ref A_Hall) "_need" = some (some (.ref f30)))
    (i30 : PySem.W.isFn K (.ref f30) = true)
    (l30 : K.lookup f30 = some ⟨oc30, od30, .func (PySem.W.fnOf "_need" "Hall._need" (defArgs s_Hall_need) (defBody s_Hall_need) (defScope s_Hall_need) .none kV30 dc30 pm30 an30 cd30 ct30), sl30⟩)
    (c30 : PySem.W.codeIn K cd30 "Hall._need" = true)
    (k30 : PySem.W.keepIn K (.ref f30) = true)
    (a31 : PySem.W.findIn K (.ref A_Hall) "step" = some (some (.ref f31)))
    (i31 : PySem.W.isFn K (.ref f31) = true)
    (l31 : K.lookup f31 = some ⟨oc31, od31, .func (PySem.W.fnOf "step" "Hall.step" (defArgs s_Hall_step) (defBody s_Hall_step) (defScope s_Hall_step) .none kV31 dc31 pm31 an31 cd31 ct31), sl31⟩)
    (c31 : PySem.W.codeIn K cd31 "Hall.step" = true)
    (k31 : PySem.W.keepIn K (.ref f31) = true)
    (a32 : PySem.W.findIn K (.ref A_Hall) "steps_of" = some (some (.ref f32)))
    (i32 : PySem.W.isFn K (.ref f32) = true)
    (l32 : K.lookup f32 = some ⟨oc32, od32, .func (PySem.W.fnOf "steps_of" "Hall.steps_of" (defArgs s_Hall_steps_of) (defBody s_Hall_steps_of) (defScope s_Hall_steps_of) .none kV32 dc32 pm32 an32 cd32 ct32), sl32⟩)
    (c32 : PySem.W.codeIn K cd32 "Hall.steps_of" = true)
    (k32 : PySem.W.keepIn K (.ref f32) = true)
    (a33 : PySem.W.findIn K (.ref A_Hall) "weave" = some (some (.ref f33)))
    (i33 : PySem.W.isFn K (.ref f33) = true)
    (l33 : K.lookup f33 = some ⟨oc33, od33, .func (PySem.W.fnOf "weave" "Hall.weave" (defArgs s_Hall_weave) (defBody s_Hall_weave) (defScope s_Hall_weave) .none kV33 dc33 pm33 an33 cd33 ct33), sl33⟩)
    (c33 : PySem.W.codeIn K cd33 "Hall.weave" = true)
    (k33 : PySem.W.keepIn K (.ref f33) = true)
    (a34 : PySem.W.nsIn K mainGlobals "_law_plans" = some (some (.ref f34)))
    (l34 : K.lookup f34 = some ⟨oc34, od34, .func (PySem.W.fnOf "_law_plans" "_law_plans" (defArgs s_l_plans) (defBody s_l_plans) (defScope s_l_plans) .none kV34 dc34 pm34 an34 cd34 ct34), sl34⟩)
    (c34 : PySem.W.codeIn K cd34 "_law_plans" = true)
    (k34 : PySem.W.keepIn K (.ref f34) = true)
    (a35 : PySem.W.findIn K (.ref A_Hall) "touches" = some (some (.ref f35)))
    (i35 : PySem.W.isFn K (.ref f35) = true)
    (l35 : K.lookup f35 = some ⟨oc35, od35, .func (PySem.W.fnOf "touches" "Hall.touches" (defArgs s_Hall_touches) (defBody s_Hall_touches) (defScope s_Hall_touches) .none kV35 dc35 pm35 an35 cd35 ct35), sl35⟩)
    (c35 : PySem.W.codeIn K cd35 "Hall.touches" = true)
    (k35 : PySem.W.keepIn K (.ref f35) = true)
    (a36 : PySem.W.nsIn K mainGlobals "_gives" = some (some (.ref f36)))
    (l36 : K.lookup f36 = some ⟨oc36, od36, .func (PySem.W.fnOf "_gives" "_gives" (defArgs s__gives) (defBody s__gives) (defScope s__gives) .none kV36 dc36 pm36 an36 cd36 ct36), sl36⟩)
    (c36 : PySem.W.codeIn K cd36 "_gives" = true)
    (k36 : PySem.W.keepIn K (.ref f36) = true)
    (a37 : PySem.W.nsIn K mainGlobals "_line_keys" = some (some (.ref f37)))
    (l37 : K.lookup f37 = some ⟨oc37, od37, .func (PySem.W.fnOf "_line_keys" "_line_keys" (defArgs s__line_keys) (defBody s__line_keys) (defScope s__line_keys) .none kV37 dc37 pm37 an37 cd37 ct37), sl37⟩)
    (c37 : PySem.W.codeIn K cd37 "_line_keys" = true)
    (k37 : PySem.W.keepIn K (.ref f37) = true)
    (a38 : PySem.W.nsIn K mainGlobals "_moment" = some (some (.ref f38)))
    (l38 : K.lookup f38 = some ⟨oc38, od38, .func (PySem.W.fnOf "_moment" "_moment" (defArgs s__moment) (defBody s__moment) (defScope s__moment) .none kV38 dc38 pm38 an38 cd38 ct38), sl38⟩)
    (c38 : PySem.W.codeIn K cd38 "_moment" = true)
    (k38 : PySem.W.keepIn K (.ref f38) = true)
    (a39 : PySem.W.nsIn K mainGlobals "told_order" = some (some (.ref f39)))
    (l39 : K.lookup f39 = some ⟨oc39, od39, .func (PySem.W.fnOf "told_order" "told_order" (defArgs s_told_order) (defBody s_told_order) (defScope s_told_order) .none kV39 dc39 pm39 an39 cd39 ct39), sl39⟩)
    (c39 : PySem.W.codeIn K cd39 "told_order" = true)
    (k39 : PySem.W.keepIn K (.ref f39) = true)
    (a40 : PySem.W.findIn K (.ref A_Hall) "order" = some (some (.ref f40)))
    (i40 : PySem.W.isFn K (.ref f40) = true)
    (l40 : K.lookup f40 = some ⟨oc40, od40, .func (PySem.W.fnOf "order" "Hall.order" (defArgs s_Hall_order) (defBody s_Hall_order) (defScope s_Hall_order) .none kV40 dc40 pm40 an40 cd40 ct40), sl40⟩)
    (c40 : PySem.W.codeIn K cd40 "Hall.order" = true)
    (k40 : PySem.W.keepIn K (.ref f40) = true)
    (a41 : PySem.W.nsIn K mainGlobals "_law_words" = some (some (.ref f41)))
    (l41 : K.lookup f41 = some ⟨oc41, od41, .func (PySem.W.fnOf "_law_words" "_law_words" (defArgs s_l_words) (defBody s_l_words) (defScope s_l_words) .none kV41 dc41 pm41 an41 cd41 ct41), sl41⟩)
    (c41 : PySem.W.codeIn K cd41 "_law_words" = true)
    (k41 : PySem.W.keepIn K (.ref f41) = true)
    (a42 : PySem.W.nsIn K mainGlobals "_law_refused" = some (some (.ref f42)))
    (l42 : K.lookup f42 = some ⟨oc42, od42, .func (PySem.W.fnOf "_law_refused" "_law_refused" (defArgs s_l_refused) (defBody s_l_refused) (defScope s_l_refused) .none kV42 dc42 pm42 an42 cd42 ct42), sl42⟩)
    (c42 : PySem.W.codeIn K cd42 "_law_refused" = true)
    (k42 : PySem.W.keepIn K (.ref f42) = true)
    (a43 : PySem.W.nsIn K mainGlobals "law" = some (some (.ref f43)))
    (l43 : K.lookup f43 = some ⟨oc43, od43, .func (PySem.W.fnOf "law" "law" (defArgs s_law) (defBody s_law) (defScope s_law) .none kV43 dc43 pm43 an43 (.ref cL) ct43), sl43⟩)
    (c43 : PySem.W.codeIn K (.ref cL) "law" = true)
    (k43 : PySem.W.keepIn K (.ref f43) = true)
    (tc_code : K.lookup cL = some ⟨.type "code", ddL, .fields vsL, slL⟩)
    (tv_code : vsL[11]? = some (.ref PL))
    (td_code : PySem.W.codeHdIn K cL PL = true)
    (tn_code : K.lookup PL = none)
    (pg_Boxes : PySem.W.plainGet K A_Boxes Str.empty = true)
    (hd_Boxes : PySem.W.hasDictIn K A_Boxes = true)
    (po_Boxes : PySem.W.plainOver K A_Boxes = true)
    (sa_Boxes : PySem.W.findIn K (.ref A_Boxes) "__setattr__" = some (some (.builtin "object.__setattr__")))
    (mk_Boxes : PySem.W.makesIn K A_Boxes = true)
    (kc_Boxes : PySem.W.keepIn K (.ref A_Boxes) = true)
    (n_Boxes__numbers : PySem.W.findIn K (.ref A_Boxes) "_numbers" = some none)
    (pg_Hand : PySem.W.plainGet K A_Hand Str.empty = true)
    (hd_Hand : PySem.W.hasDictIn K A_Hand = true)
    (po_Hand : PySem.W.plainOver K A_Hand = true)
    (sa_Hand : PySem.W.findIn K (.ref A_Hand) "__setattr__" = some (some (.builtin "object.__setattr__")))
    (mk_Hand : PySem.W.makesIn K A_Hand = true)
    (kc_Hand : PySem.W.keepIn K (.ref A_Hand) = true)
    (n_Hand__hand : PySem.W.findIn K (.ref A_Hand) "_hand" = some none)
    (n_Hand__plan : PySem.W.findIn K (.ref A_Hand) "_plan" = some none)
    (n_Hand__many : PySem.W.findIn K (.ref A_Hand) "_many" = some none)
    (n_Hand__ended : PySem.W.findIn K (.ref A_Hand) "_ended" = some none)
    (n_Hand__ones : PySem.W.findIn K (.ref A_Hand) "_ones" = some none)
    (n_Hand__took : PySem.W.findIn K (.ref A_Hand) "_took" = some none)
    (n_Hand__begin : PySem.W.findIn K (.ref A_Hand) "_begin" = some none)
    (n_Hand__outcome : PySem.W.findIn K (.ref A_Hand) "_outcome" = some none)
    (n_Hand__reading : PySem.W.findIn K (.ref A_Hand) "_reading" = some none)
    (n_Hand__readings : PySem.W.findIn K (.ref A_Hand) "_readings" = some none)
    (n_Hand_steps : PySem.W.findIn K (.ref A_Hand) "steps" = some none)
    (pg_Hall : PySem.W.plainGet K A_Hall Str.empty = true)
    (hd_Hall : PySem.W.hasDictIn K A_Hall = true)
    (po_Hall : PySem.W.plainOver K A_Hall = true)
    (sa_Hall : PySem.W.findIn K (.ref A_Hall) "__setattr__" = some (some (.builtin "object.__setattr__")))
    (mk_Hall : PySem.W.makesIn K A_Hall = true)
    (kc_Hall : PySem.W.keepIn K (.ref A_Hall) = true)
    (n_Hall__boxes : PySem.W.findIn K (.ref A_Hall) "_boxes" = some none)
    (n_Hall__hands : PySem.W.findIn K (.ref A_Hall) "_hands" = some none)
    (n_Hall__records : PySem.W.findIn K (.ref A_Hall) "_records" = some none)
    (n_Hall__marks : PySem.W.findIn K (.ref A_Hall) "_marks" = some none)
    (n_Hall__touches : PySem.W.findIn K (.ref A_Hall) "_touches" = some none)
    (z_abs : PySem.W.nsIn K mainGlobals "abs" = some none)
    (z_len : PySem.W.nsIn K mainGlobals "len" = some none)
    (z_max : PySem.W.nsIn K mainGlobals "max" = some none)
    (z_int : PySem.W.nsIn K mainGlobals "int" = some none)
    (z_range : PySem.W.nsIn K mainGlobals "range" = some none)
    (z_isinstance : PySem.W.nsIn K mainGlobals "isinstance" = some none)
    (z_bool : PySem.W.nsIn K mainGlobals "bool" = some none)
    (z_list : PySem.W.nsIn K mainGlobals "list" = some none)
    (z_sum : PySem.W.nsIn K mainGlobals "sum" = some none)
    (z_min : PySem.W.nsIn K mainGlobals "min" = some none)
    (z_sorted : PySem.W.nsIn K mainGlobals "sorted" = some none)
    (z_tuple : PySem.W.nsIn K mainGlobals "tuple" = some none)
    (z_reversed : PySem.W.nsIn K mainGlobals "reversed" = some none)
    (z_zip : PySem.W.nsIn K mainGlobals "zip" = some none)
    (z_str : PySem.W.nsIn K mainGlobals "str" = some none)
    (z_ValueError : PySem.W.nsIn K mainGlobals "ValueError" = some none)
    (g_GREATEST : PySem.W.nsIn K mainGlobals "GREATEST" = some (some (.int 999 tG)))
    (g_MOST_HANDS : PySem.W.nsIn K mainGlobals "MOST_HANDS" = some (some (.int 4 tH)))
    (g_MOST_DEEDS : PySem.W.nsIn K mainGlobals "MOST_DEEDS" = some (some (.int 40 tD)))
    (g_THINGS : PySem.W.nsIn K mainGlobals "THINGS" = some (some (.int 5 tT)))
    (g_COUNTER : PySem.W.nsIn K mainGlobals "COUNTER" = some (some (.int 0 tC)))
    (g_LINE : PySem.W.nsIn K mainGlobals "LINE" = some (some (.int 4 tL)))
    (g_VIEW : PySem.W.nsIn K mainGlobals "VIEW" = some (some (.int 2 tV)))
    (g_LIMIT : PySem.W.nsIn K mainGlobals "LIMIT" = some (some (.int 1000000 tM)))
    (own : LamX.OwnTab K fa h) : LamX.LawAtS l w K CX0 18 63 "_law_script" mg fa h := by
  have e := hfa.symm.trans (PySem.W.mg_of X G a43)
  cases e
  have T : Txt K mg w A_Boxes A_Hand A_Hall A_HandsError A_NoNumber A_NoBox A_NoHand A_NoDeed A_THING_OF A_WITH_A_NUMBER A_TELLING tT tG tH tD tC tL tV tM :=
    { m_HandsError := PySem.W.mg_of X G a_HandsError,
      m_NoNumber := PySem.W.mg_of X G a_NoNumber,
      m_NoBox := PySem.W.mg_of X G a_NoBox,
      m_NoHand := PySem.W.mg_of X G a_NoHand,
      m_NoDeed := PySem.W.mg_of X G a_NoDeed,
      k_THING_OF := ⟨PySem.W.mg_of X G a_THING_OF, ⟨_, _, l_THING_OF, kk_THING_OF⟩, lo_THING_OF, (by
        intro p hp
        simp only [Sd.kvThing, Sd.noThing, List.mem_cons, List.not_mem_nil, or_false] at hp
        rcases hp with rfl | rfl | rfl | rfl | rfl | rfl | rfl | rfl | rfl | rfl
        all_goals first | exact ⟨_, v0_THING_OF⟩ | exact ⟨_, v1_THING_OF⟩ | exact ⟨_, v2_THING_OF⟩ | exact ⟨_, v3_THING_OF⟩ | exact ⟨_, v4_THING_OF⟩ | exact ⟨_, v5_THING_OF⟩ | exact ⟨_, v6_THING_OF⟩ | exact ⟨_, v7_THING_OF⟩ | exact ⟨_, v8_THING_OF⟩ | exact ⟨_, v9_THING_OF⟩), (by
        intro p hp
        simp only [Sd.kvThing, Sd.noThing, List.mem_cons, List.not_mem_nil, or_false] at hp
        rcases hp with rfl | rfl | rfl | rfl
        all_goals first | exact w0_THING_OF | exact w1_THING_OF | exact w2_THING_OF | exact w3_THING_OF)⟩,
      k_WITH_A_NUMBER := ⟨PySem.W.mg_of X G a_WITH_A_NUMBER, ⟨_, _, _, l_WITH_A_NUMBER, rfl, rfl, by show 4 ≤ sizeLine; decide, (.cons ⟨_, rfl⟩ (.cons ⟨_, rfl⟩ (.cons ⟨_, rfl⟩ (.cons ⟨_, rfl⟩ (.nil)))))⟩⟩,
      k_TELLING := ⟨PySem.W.mg_of X G a_TELLING, ⟨_, _, _, l_TELLING, rfl, rfl, by show 4 ≤ sizeLine; decide, (.cons ⟨_, rfl⟩ (.cons ⟨_, rfl⟩ (.cons ⟨_, rfl⟩ (.cons ⟨_, rfl⟩ (.nil)))))⟩⟩,
      r_NoHand := ⟨x_NoHand, k_NoHand, b_NoHand, t_NoHand, bS_NoHand, hS_NoHand, tS_NoHand, u_NoHand, ⟨e1_NoHand, e2_NoHand, b_NoHand, e3_NoHand, e4_NoHand, e5_NoHand, e6_NoHand, e7_NoHand⟩, me_NoHand, ve_NoHand, su_NoHand, fun o ho => by
        simp only [List.mem_cons, List.not_mem_nil, or_false] at ho
        rcases ho with rfl | rfl | rfl
        all_goals assumption⟩,
      r_NoDeed := ⟨x_NoDeed, k_NoDeed, b_NoDeed, t_NoDeed, bS_NoDeed, hS_NoDeed, tS_NoDeed, u_NoDeed, ⟨e1_NoDeed, e2_NoDeed, b_NoDeed, e3_NoDeed, e4_NoDeed, e5_NoDeed, e6_NoDeed, e7_NoDeed⟩, me_NoDeed, ve_NoDeed, su_NoDeed, fun o ho => by cases ho⟩,
      abs := PySem.W.mg_none_of X G z_abs,
      len := PySem.W.mg_none_of X G z_len,
      max := PySem.W.mg_none_of X G z_max,
      int := PySem.W.mg_none_of X G z_int,
      range := PySem.W.mg_none_of X G z_range,
      isinstance := PySem.W.mg_none_of X G z_isinstance,
      bool := PySem.W.mg_none_of X G z_bool,
      list := PySem.W.mg_none_of X G z_list,
      sum := PySem.W.mg_none_of X G z_sum,
      min := PySem.W.mg_none_of X G z_min,
      sorted := PySem.W.mg_none_of X G z_sorted,
      tuple := PySem.W.mg_none_of X G z_tuple,
      reversed := PySem.W.mg_none_of X G z_reversed,
      zip := PySem.W.mg_none_of X G z_zip,
      str := PySem.W.mg_none_of X G z_str,
      ValueError := PySem.W.mg_none_of X G z_ValueError,
      m_GREATEST := PySem.W.mg_of X G g_GREATEST,
      m_MOST_HANDS := PySem.W.mg_of X G g_MOST_HANDS,
      m_MOST_DEEDS := PySem.W.mg_of X G g_MOST_DEEDS,
      m_THINGS := PySem.W.mg_of X G g_THINGS,
      m_COUNTER := PySem.W.mg_of X G g_COUNTER,
      m_LINE := PySem.W.mg_of X G g_LINE,
      m_VIEW := PySem.W.mg_of X G g_VIEW,
      m_LIMIT := PySem.W.mg_of X G g_LIMIT,
      m_Boxes := PySem.W.mg_of X G a_Boxes,
      cl_Boxes := ⟨pg_Boxes, hd_Boxes, po_Boxes, sa_Boxes⟩,
      n_Boxes__numbers := n_Boxes__numbers,
      m_Hand := PySem.W.mg_of X G a_Hand,
      cl_Hand := ⟨pg_Hand, hd_Hand, po_Hand, sa_Hand⟩,
      n_Hand__hand := n_Hand__hand,
      n_Hand__plan := n_Hand__plan,
      n_Hand__many := n_Hand__many,
      n_Hand__ended := n_Hand__ended,
      n_Hand__ones := n_Hand__ones,
      n_Hand__took := n_Hand__took,
      n_Hand__begin := n_Hand__begin,
      n_Hand__outcome := n_Hand__outcome,
      n_Hand__reading := n_Hand__reading,
      n_Hand__readings := n_Hand__readings,
      n_Hand_steps := n_Hand_steps,
      m_Hall := PySem.W.mg_of X G a_Hall,
      cl_Hall := ⟨pg_Hall, hd_Hall, po_Hall, sa_Hall⟩,
      n_Hall__boxes := n_Hall__boxes,
      n_Hall__hands := n_Hall__hands,
      n_Hall__records := n_Hall__records,
      n_Hall__marks := n_Hall__marks,
      n_Hall__touches := n_Hall__touches }
  have F1 := fun_mk (st := s_l_cell) l1 c1 k1
  have B1 := F1.binds (ps := ["_law_script", "_law_k"]) fun _ _ _ _ _ _ us hl => match us, hl with | [_, _], _ => rfl
  have F2 := fun_mk (st := s_l_dice) l2 c2 k2
  have B2 := F2.binds (ps := ["_law_script", "_law_k"]) fun _ _ _ _ _ _ us hl => match us, hl with | [_, _], _ => rfl
  have F3 := fun_mk (st := s_l_off) l3 c3 k3
  have B3 := F3.binds (ps := ["_law_d", "_law_most"]) fun _ _ _ _ _ _ us hl => match us, hl with | [_, _], _ => rfl
  have F4 := fun_mk (st := s_l_deed) l4 c4 k4
  have B4 := F4.binds (ps := ["_law_d", "_law_word"]) fun _ _ _ _ _ _ us hl => match us, hl with | [_, _], _ => rfl
  have F5 := fun_mk (st := s__need_number) l5 c5 k5
  have B5 := F5.binds (ps := ["deed"]) fun _ _ _ _ _ _ us hl => match us, hl with | [_], _ => rfl
  have F6 := fun_mk (st := s_need_deed) l6 c6 k6
  have B6 := F6.binds (ps := ["deed", "hand"]) fun _ _ _ _ _ _ us hl => match us, hl with | [_, _], _ => rfl
  have F7 := fun_mk (st := s__need_plans) l7 c7 k7
  have B7 := F7.binds (ps := ["plans"]) fun _ _ _ _ _ _ us hl => match us, hl with | [_], _ => rfl
  have F8 := fun_mk (st := s_Boxes__init_) l8 c8 k8
  have B8 := F8.binds (ps := ["self", "many"]) fun _ _ _ _ _ _ us hl => match us, hl with | [_, _], _ => rfl
  have F9 := fun_mk (st := s_Hand__init_) l9 c9 k9
  have B9 := F9.binds (ps := ["self", "hand", "plan", "many"]) fun _ _ _ _ _ _ us hl => match us, hl with | [_, _, _, _], _ => rfl
  have F10 := fun_mk (st := s_Hall__init_) l10 c10 k10
  have B10 := F10.binds (ps := ["self", "plans"]) fun _ _ _ _ _ _ us hl => match us, hl with | [_, _], _ => rfl
  have F11 := fun_mk (st := s_Hall_records) l11 c11 k11
  have B11 := F11.binds (ps := ["self"]) fun _ _ _ _ _ _ us hl => match us, hl with | [_], _ => rfl
  have F12 := fun_mk (st := s_packed) l12 c12 k12
  have B12 := F12.binds (ps := ["row"]) fun _ _ _ _ _ _ us hl => match us, hl with | [_], _ => rfl
  have F13 := fun_mk (st := s_parted) l13 c13 k13
  have B13 := F13.binds (ps := ["number"]) fun _ _ _ _ _ _ us hl => match us, hl with | [_], _ => rfl
  have F14 := fun_mk (st := s_counter_outcome) l14 c14 k14
  have B14 := F14.binds (ps := ["deed", "ones", "readings"]) fun _ _ _ _ _ _ us hl => match us, hl with | [_, _, _], _ => rfl
  have F15 := fun_mk (st := s__row) l15 c15 k15
  have B15 := F15.binds (ps := ["number"]) fun _ _ _ _ _ _ us hl => match us, hl with | [_], _ => rfl
  have F16 := fun_mk (st := s__cell_behind) l16 c16 k16
  have B16 := F16.binds (ps := ["deed", "cell"]) fun _ _ _ _ _ _ us hl => match us, hl with | [_, _], _ => rfl
  have F17 := fun_mk (st := s__left) l17 c17 k17
  have B17 := F17.binds (ps := ["rows", "took"]) fun _ _ _ _ _ _ us hl => match us, hl with | [_, _], _ => rfl
  have F18 := fun_mk (st := s__given) l18 c18 k18
  have B18 := F18.binds (ps := ["rows", "hand", "gift"]) fun _ _ _ _ _ _ us hl => match us, hl with | [_, _, _], _ => rfl
  have F19 := fun_mk (st := s_line_outcome) l19 c19 k19
  have B19 := F19.binds (ps := ["deed", "hand", "took", "readings"]) fun _ _ _ _ _ _ us hl => match us, hl with | [_, _, _, _], _ => rfl
  have F20 := fun_mk (st := s__view) l20 c20 k20
  have B20 := F20.binds (ps := ["readings"]) fun _ _ _ _ _ _ us hl => match us, hl with | [_], _ => rfl
  have F21 := fun_mk (st := s_picture_outcome) l21 c21 k21
  have B21 := F21.binds (ps := ["deed", "hand", "readings"]) fun _ _ _ _ _ _ us hl => match us, hl with | [_, _, _], _ => rfl
  have F22 := fun_mk (st := s_Boxes_need) l22 c22 k22
  have B22 := F22.binds (ps := ["self", "place"]) fun _ _ _ _ _ _ us hl => match us, hl with | [_, _], _ => rfl
  have F23 := fun_mk (st := s_Boxes_take) l23 c23 k23
  have B23 := F23.binds (ps := ["self", "place"]) fun _ _ _ _ _ _ us hl => match us, hl with | [_, _], _ => rfl
  have F24 := fun_mk (st := s_Boxes_put) l24 c24 k24
  have B24 := F24.binds (ps := ["self", "place", "number"]) fun _ _ _ _ _ _ us hl => match us, hl with | [_, _, _], _ => rfl
  have F25 := fun_mk (st := s_Hand_is_through) l25 c25 k25
  have B25 := F25.binds (ps := ["self"]) fun _ _ _ _ _ _ us hl => match us, hl with | [_], _ => rfl
  have F26 := fun_mk (st := s_Hand_outcome_of) l26 c26 k26
  have B26 := F26.binds (ps := ["self", "deed"]) fun _ _ _ _ _ _ us hl => match us, hl with | [_, _], _ => rfl
  have F27 := fun_mk (st := s_Hand_keep) l27 c27 k27
  have B27 := F27.binds (ps := ["self", "number", "deed"]) fun _ _ _ _ _ _ us hl => match us, hl with | [_, _, _], _ => rfl
  have F28 := fun_mk (st := s_Hand_end) l28 c28 k28
  have B28 := F28.binds (ps := ["self", "deed", "now"]) fun _ _ _ _ _ _ us hl => match us, hl with | [_, _, _], _ => rfl
  have F29 := fun_mk (st := s_Hand_step) l29 c29 k29
  have B29 := F29.binds (ps := ["self", "boxes", "now"]) fun _ _ _ _ _ _ us hl => match us, hl with | [_, _, _], _ => rfl
  have F30 := fun_mk (st := s_Hall_need) l30 c30 k30
  have B30 := F30.binds (ps := ["self", "hand"]) fun _ _ _ _ _ _ us hl => match us, hl with | [_, _], _ => rfl
  have F31 := fun_mk (st := s_Hall_step) l31 c31 k31
  have B31 := F31.binds (ps := ["self", "hand"]) fun _ _ _ _ _ _ us hl => match us, hl with | [_, _], _ => rfl
  have F32 := fun_mk (st := s_Hall_steps_of) l32 c32 k32
  have B32 := F32.binds (ps := ["self", "hand"]) fun _ _ _ _ _ _ us hl => match us, hl with | [_, _], _ => rfl
  have F33 := fun_mk (st := s_Hall_weave) l33 c33 k33
  have B33 := F33.binds (ps := ["self", "row"]) fun _ _ _ _ _ _ us hl => match us, hl with | [_, _], _ => rfl
  have F34 := fun_mk (st := s_l_plans) l34 c34 k34
  have B34 := F34.binds (ps := ["_law_d", "_law_many", "_law_words_here", "_law_most"]) fun _ _ _ _ _ _ us hl => match us, hl with | [_, _, _, _], _ => rfl
  have F35 := fun_mk (st := s_Hall_touches) l35 c35 k35
  have B35 := F35.binds (ps := ["self"]) fun _ _ _ _ _ _ us hl => match us, hl with | [_], _ => rfl
  have F36 := fun_mk (st := s__gives) l36 c36 k36
  have B36 := F36.binds (ps := ["records", "marks"]) fun _ _ _ _ _ _ us hl => match us, hl with | [_, _], _ => rfl
  have F37 := fun_mk (st := s__line_keys) l37 c37 k37
  have B37 := F37.binds (ps := ["records", "marks"]) fun _ _ _ _ _ _ us hl => match us, hl with | [_, _], _ => rfl
  have F38 := fun_mk (st := s__moment) l38 c38 k38
  have B38 := F38.binds (ps := ["begin", "changes", "moment"]) fun _ _ _ _ _ _ us hl => match us, hl with | [_, _, _], _ => rfl
  have F39 := fun_mk (st := s_told_order) l39 c39 k39
  have B39 := F39.binds (ps := ["records", "marks"]) fun _ _ _ _ _ _ us hl => match us, hl with | [_, _], _ => rfl
  have F40 := fun_mk (st := s_Hall_order) l40 c40 k40
  have B40 := F40.binds (ps := ["self"]) fun _ _ _ _ _ _ us hl => match us, hl with | [_], _ => rfl
  have F41 := fun_mk (st := s_l_words) l41 c41 k41
  have B41 := F41.binds (ps := []) fun _ _ _ _ _ _ us hl => match us, hl with | [], _ => rfl
  have F42 := fun_mk (st := s_l_refused) l42 c42 k42
  have B42 := F42.binds (ps := ["_law_work"]) fun _ _ _ _ _ _ us hl => match us, hl with | [_], _ => rfl
  have F43 := fun_mk (st := s_law) l43 c43 k43
  have B43 := F43.binds (ps := ["_law_script"]) fun _ _ _ _ _ _ us hl => match us, hl with | [_], _ => rfl
  refine ⟨PySem.W.fnOf "law" "law" (defArgs s_law) (defBody s_law) (defScope s_law) .none kV43 dc43 pm43 an43 (.ref cL) ct43, [(cL, PL)], spLawT K PL, fun p hp => ?_, fun p hp => ?_, fun p hp => ?_, fun s v => .of_eq rfl, fun H a ns hl _ hH hS => ⟨a, ns, rfl, hS, hl, hH _ (List.mem_singleton.mpr rfl), fun _ => rfl⟩, fun base _ _ hTB => ?_⟩
  · rw [List.mem_singleton.mp hp]
    exact own cL PL _ _ _ _ _ _ l43 rfl rfl tc_code tv_code
  · rw [List.mem_singleton.mp hp]
    exact tn_code
  · rw [List.mem_singleton.mp hp]
    exact PySem.W.codeHd_of_K X td_code
  have C_l_cell : Sd.Cal l.prog w K mg base CX0 1 "_law_cell" ["_law_script", "_law_k"] (Sd.spCell K) := Sd.Cal.mk' F1 (PySem.W.mg_of X G a1) B1 (ok_l_cell F1 T.toDr)
  have C_l_dice : Sd.Cal l.prog w K mg base CX0 2 "_law_dice" ["_law_script", "_law_k"] (Sd.spDice K) := Sd.Cal.mk' F2 (PySem.W.mg_of X G a2) B2 (ok_l_dice F2 T.toDr C_l_cell)
  have C_l_off : Sd.Cal l.prog w K mg base CX0 2 "_law_off" ["_law_d", "_law_most"] (Sd.spOff K) := Sd.Cal.mk' F3 (PySem.W.mg_of X G a3) B3 (ok_l_off F3 T.toDr C_l_cell)
  have C_l_deed : Sd.Cal l.prog w K mg base CX0 3 "_law_deed" ["_law_d", "_law_word"] (Sd.spLDeed K) := Sd.Cal.mk' F4 (PySem.W.mg_of X G a4) B4 (ok_l_deed F4 T.toDr C_l_off)
  have C__need_number : Sd.Cal l.prog w K mg base (L2.CX l.prog w) 1 "_need_number" ["deed"] (Sd.spNN A_NoDeed) := Sd.Cal.mk' F5 (PySem.W.mg_of X G a5) B5 (ok__need_number F5 T)
  have C_need_deed : Sd.Cal l.prog w K mg base (L2.CX l.prog w) 2 "need_deed" ["deed", "hand"] (Sd.spNeedDeed A_NoDeed) := Sd.Cal.mk' F6 (PySem.W.mg_of X G a6) B6 (ok_need_deed F6 T C__need_number)
  have C__need_plans : Sd.Cal l.prog w K mg base (L2.CX l.prog w) 3 "_need_plans" ["plans"] (Sd.spNeedPlans A_NoHand A_NoDeed) := Sd.Cal.mk' F7 (PySem.W.mg_of X G a7) B7 (ok__need_plans F7 T C_need_deed)
  have C_Boxes : Sd.CalI l.prog w K mg base CX0 1 "Boxes" A_Boxes ["self", "many"] (Sd.spBInit A_Boxes) := Sd.CalI.mk' F8 (PySem.W.mg_of X G a_Boxes) ⟨mk_Boxes, a8, i8, kc_Boxes⟩ B8 (ok_Boxes__init_ F8 T)
  have C_Hand : Sd.CalI l.prog w K mg base CX0 1 "Hand" A_Hand ["self", "hand", "plan", "many"] (Sd.spHandInit A_Hand) := Sd.CalI.mk' F9 (PySem.W.mg_of X G a_Hand) ⟨mk_Hand, a9, i9, kc_Hand⟩ B9 (ok_Hand__init_ F9 T)
  have C_Hall : Sd.CalI l.prog w K mg base (L2.CX l.prog w) 4 "Hall" A_Hall ["self", "plans"] (Sd.spHallInit A_Boxes A_Hand A_Hall A_NoHand A_NoDeed) := Sd.CalI.mk' F10 (PySem.W.mg_of X G a_Hall) ⟨mk_Hall, a10, i10, kc_Hall⟩ B10 (ok_Hall__init_ F10 T C__need_plans C_Boxes C_Hand)
  have C_Hall_records : Sd.CalM l.prog w K mg base CX0 1 A_Hall "records" ["self"] (Sd.spRecords A_Boxes A_Hand A_Hall) := Sd.CalM.mk' F11 T.cl_Hall ⟨a11, i11, k11⟩ B11 (ok_Hall_records F11 T)
  have C_packed : Sd.Cal l.prog w K mg base CX0 1 "packed" ["row"] (Sd.spPacked K) := Sd.Cal.mk' F12 (PySem.W.mg_of X G a12) B12 (ok_packed F12 T)
  have C_parted : Sd.Cal l.prog w K mg base CX0 1 "parted" ["number"] (Sd.spParted) := Sd.Cal.mk' F13 (PySem.W.mg_of X G a13) B13 (ok_parted F13 T)
  have C_counter_outcome : Sd.Cal l.prog w K mg base CX0 1 "counter_outcome" ["deed", "ones", "readings"] (Sd.spCnt) := Sd.Cal.mk' F14 (PySem.W.mg_of X G a14) B14 (ok_counter_outcome F14 T)
  have C__row : Sd.Cal l.prog w K mg base CX0 2 "_row" ["number"] (Sd.spRow) := Sd.Cal.mk' F15 (PySem.W.mg_of X G a15) B15 (ok__row F15 T C_parted)
  have C__cell_behind : Sd.Cal l.prog w K mg base CX0 1 "_cell_behind" ["deed", "cell"] (Sd.spCellB) := Sd.Cal.mk' F16 (PySem.W.mg_of X G a16) B16 (ok__cell_behind F16 T)
  have C__left : Sd.Cal l.prog w K mg base CX0 1 "_left" ["rows", "took"] (Sd.spLeft) := Sd.Cal.mk' F17 (PySem.W.mg_of X G a17) B17 (ok__left F17 T)
  have C__given : Sd.Cal l.prog w K mg base CX0 2 "_given" ["rows", "hand", "gift"] (Sd.spGiven) := Sd.Cal.mk' F18 (PySem.W.mg_of X G a18) B18 (ok__given F18 T C_packed)
  have C_line_outcome : Sd.Cal l.prog w K mg base CX0 3 "line_outcome" ["deed", "hand", "took", "readings"] (Sd.spLine) := Sd.Cal.mk' F19 (PySem.W.mg_of X G a19) B19 (ok_line_outcome F19 T C_parted C__given C__left)
  have C__view : Sd.Cal l.prog w K mg base CX0 3 "_view" ["readings"] (Sd.spView) := Sd.Cal.mk' F20 (PySem.W.mg_of X G a20) B20 (ok__view F20 T C__row)
  have C_picture_outcome : Sd.Cal l.prog w K mg base CX0 4 "picture_outcome" ["deed", "hand", "readings"] (Sd.spPic) := Sd.Cal.mk' F21 (PySem.W.mg_of X G a21) B21 (ok_picture_outcome F21 T C__view C__row C__cell_behind C_packed)
  have C_Boxes_need : Sd.CalM l.prog w K mg base CX0 1 A_Boxes "_need" ["self", "place"] (Sd.spBNeed A_Boxes) := Sd.CalM.mk' F22 T.cl_Boxes ⟨a22, i22, k22⟩ B22 (ok_Boxes_need F22 T)
  have C_Boxes_take : Sd.CalM l.prog w K mg base CX0 2 A_Boxes "take" ["self", "place"] (Sd.spBTake A_Boxes) := Sd.CalM.mk' F23 T.cl_Boxes ⟨a23, i23, k23⟩ B23 (ok_Boxes_take F23 T C_Boxes_need)
  have C_Boxes_put : Sd.CalM l.prog w K mg base CX0 2 A_Boxes "put" ["self", "place", "number"] (Sd.spBPut A_Boxes) := Sd.CalM.mk' F24 T.cl_Boxes ⟨a24, i24, k24⟩ B24 (ok_Boxes_put F24 T C_Boxes_need)
  have C_Hand_is_through : Sd.CalM l.prog w K mg base CX0 1 A_Hand "is_through" ["self"] (Sd.spThrough A_Hand) := Sd.CalM.mk' F25 T.cl_Hand ⟨a25, i25, k25⟩ B25 (ok_Hand_is_through F25 T)
  have C_Hand_outcome_of : Sd.CalM l.prog w K mg base CX0 5 A_Hand "_outcome_of" ["self", "deed"] (Sd.spOutOf A_Hand) := Sd.CalM.mk' F26 T.cl_Hand ⟨a26, i26, k26⟩ B26 (ok_Hand_outcome_of F26 T C_counter_outcome C_line_outcome C_picture_outcome)
  have C_Hand_keep : Sd.CalM l.prog w K mg base CX0 6 A_Hand "_keep" ["self", "number", "deed"] (Sd.spKeepN A_Hand) := Sd.CalM.mk' F27 T.cl_Hand ⟨a27, i27, k27⟩ B27 (ok_Hand_keep F27 T C_Hand_outcome_of)
  have C_Hand_end : Sd.CalM l.prog w K mg base CX0 1 A_Hand "_end" ["self", "deed", "now"] (Sd.spHEnd2 A_Hand) := Sd.CalM.mk' F28 T.cl_Hand ⟨a28, i28, k28⟩ B28 (ok_Hand_end F28 T)
  have C_Hand_step : Sd.CalM l.prog w K mg base CX0 7 A_Hand "step" ["self", "boxes", "now"] (Sd.spHStep A_Boxes A_Hand) := Sd.CalM.mk' F29 T.cl_Hand ⟨a29, i29, k29⟩ B29 (ok_Hand_step F29 T C_Hand_outcome_of C_Boxes_put C_Boxes_take C_Hand_keep C_Hand_end)
  have C_Hall_need : Sd.CalM l.prog w K mg base (L2.CX l.prog w) 1 A_Hall "_need" ["self", "hand"] (Sd.spNeedHE A_Boxes A_Hand A_Hall A_NoHand) := Sd.CalM.mk' F30 T.cl_Hall ⟨a30, i30, k30⟩ B30 (ok_Hall_need F30 T)
  have C_Hall_step : Sd.CalM l.prog w K mg base (L2.CX l.prog w) 8 A_Hall "step" ["self", "hand"] (Sd.spHallStepE A_Boxes A_Hand A_Hall A_NoHand) := Sd.CalM.mk' F31 T.cl_Hall ⟨a31, i31, k31⟩ B31 (ok_Hall_step F31 T C_Hall_need C_Hand_is_through C_Hand_step)
  have C_Hall_steps_of : Sd.CalM l.prog w K mg base (L2.CX l.prog w) 2 A_Hall "steps_of" ["self", "hand"] (Sd.spStepsOfE A_Boxes A_Hand A_Hall A_NoHand) := Sd.CalM.mk' F32 T.cl_Hall ⟨a32, i32, k32⟩ B32 (ok_Hall_steps_of F32 T C_Hall_need)
  have C_Hall_weave : Sd.CalM l.prog w K mg base (L2.CX l.prog w) 9 A_Hall "weave" ["self", "row"] (Sd.spWeaveE K A_Boxes A_Hand A_Hall A_NoHand) := Sd.CalM.mk' F33 T.cl_Hall ⟨a33, i33, k33⟩ B33 (ok_Hall_weave F33 T C_Hall_need C_Hall_step)
  have C_l_plans : Sd.Cal l.prog w K mg base CX0 4 "_law_plans" ["_law_d", "_law_many", "_law_words_here", "_law_most"] (Sd.spPlans K) := Sd.Cal.mk' F34 (PySem.W.mg_of X G a34) B34 (ok_l_plans F34 T C_l_off C_l_deed)
  have C_Hall_touches : Sd.CalM l.prog w K mg base CX0 1 A_Hall "touches" ["self"] (Sd.spTouches A_Boxes A_Hand A_Hall) := Sd.CalM.mk' F35 T.cl_Hall ⟨a35, i35, k35⟩ B35 (ok_Hall_touches F35 T)
  have C__gives : Sd.Cal l.prog w K mg base CX0 1 "_gives" ["records", "marks"] (Sd.spGives) := Sd.Cal.mk' F36 (PySem.W.mg_of X G a36) B36 (ok__gives F36 T)
  have C__line_keys : Sd.Cal l.prog w K mg base CX0 2 "_line_keys" ["records", "marks"] (Sd.spLineKeys) := Sd.Cal.mk' F37 (PySem.W.mg_of X G a37) B37 (ok__line_keys F37 T C__gives)
  have C__moment : Sd.Cal l.prog w K mg base CX0 1 "_moment" ["begin", "changes", "moment"] (Sd.spMoment) := Sd.Cal.mk' F38 (PySem.W.mg_of X G a38) B38 (ok__moment F38 T)
  have C_told_order : Sd.Cal l.prog w K mg base CX0 3 "told_order" ["records", "marks"] (Sd.spTold) := Sd.Cal.mk' F39 (PySem.W.mg_of X G a39) B39 (ok_told_order F39 T C__line_keys C__moment)
  have C_Hall_order : Sd.CalM l.prog w K mg base CX0 4 A_Hall "order" ["self"] (Sd.spOrder A_Boxes A_Hand A_Hall) := Sd.CalM.mk' F40 T.cl_Hall ⟨a40, i40, k40⟩ B40 (ok_Hall_order F40 T C_told_order)
  have C_l_words : Sd.Cal l.prog w K mg base CX0 1 "_law_words" [] (Sd.spWords) := Sd.Cal.mk' F41 (PySem.W.mg_of X G a41) B41 (ok_l_words F41 T)
  exact ok_law F43 T C_l_cell C_l_dice C_l_off C_l_words C_l_plans C_Hall C_Hall_step C_Hall_steps_of C_Hall_weave C_Hall_records C_Hall_order C_Hall_touches rfl (hTB (cL, PL) (List.mem_singleton.mpr rfl)) F42 (PySem.W.mg_of X G a42) B42
theorem walk {l : PySem.W.OpenLaw} {q : Program} {loose : List Str} {XP : (Str → Option Value) → Heap → Prop} {YP : World → Heap → Prop} {d : DefRec} {K : Params → PySem.W.Frag} (hn : l.most = some 63) (hdf : d.params.defaults = []) (hrec : ((PyProof.Rows.recsOf q).any fun e => e.name == d.name) = true)
    (hY : ∀ (w : World) (h : Heap), YP w h → (K w.params).In h)
    (F : ∀ (w : World) (mg : Str → Option Value) (fa : Addr) (h : Heap), YP w h → (K w.params).In h → h.Ns mainGlobals mg → mg d.name = some (.ref fa) → LamX.OwnTab (K w.params) fa h → LamX.LawAtS l w (K w.params) CX0 18 63 "_law_script" mg fa h) :
    PySem.W.WalkO q loose XP YP l.row.toRowW d [] (fun f vs => PySem.call f vs) :=
  LamX.walk_ofOwn (n := 63) (k := 18) (x := "_law_script") (CX := fun _ => CX0) hn (by decide) hdf ⟨rfl, by decide, by decide⟩ hrec hY F fun _ _ _ _ _ z => z
end K07
open PySem PySem.W PyProof.Rows in
set_option maxRecDepth 100000 in
set_option maxHeartbeats 0 in
theorem PySem.Challenge.cw_stillhands_k07_a_hall_begun_holds : PySem.Challenge.rw_stillhands_k07_a_hall_begun.Holds := by
  w_on; o_law; k_head; (case hw => w_witness2)
  k_fill
  refine K07.walk (l := PySem.Challenge.rw_stillhands_k07_a_hall_begun) rfl rfl ?hrec (fun w h Y => PySem.W.km_in_of Y) ?F
  case hrec => first | rfl | decide +kernel
  case F =>
    intro w mg fa h Y KX G hmg own
    refine' K07.all_mk KX G hmg ?a_Boxes ?a_Hand ?a_Hall ?a_HandsError ?a_NoNumber ?a_NoBox ?a_NoHand ?a_NoDeed ?a_THING_OF ?l_THING_OF ?kk_THING_OF ?lo_THING_OF ?v0_THING_OF ?v1_THING_OF ?v2_THING_OF ?v3_THING_OF ?v4_THING_OF ?v5_THING_OF ?v6_THING_OF ?v7_THING_OF ?v8_THING_OF ?v9_THING_OF ?w0_THING_OF ?w1_THING_OF ?w2_THING_OF ?w3_THING_OF ?a_WITH_A_NUMBER ?l_WITH_A_NUMBER ?a_TELLING ?l_TELLING ?x_NoHand ?k_NoHand ?b_NoHand ?t_NoHand ?bS_NoHand ?hS_NoHand ?tS_NoHand ?u_NoHand ?e1_NoHand ?e2_NoHand ?e3_NoHand ?e4_NoHand ?e5_NoHand ?e6_NoHand ?e7_NoHand ?me_NoHand ?ve_NoHand ?su_NoHand ?no_NoHand_NoBox ?no_NoHand_NoNumber ?no_NoHand_NoDeed ?x_NoDeed ?k_NoDeed ?b_NoDeed ?t_NoDeed ?bS_NoDeed ?hS_NoDeed ?tS_NoDeed ?u_NoDeed ?e1_NoDeed ?e2_NoDeed ?e3_NoDeed ?e4_NoDeed ?e5_NoDeed ?e6_NoDeed ?e7_NoDeed ?me_NoDeed ?ve_NoDeed ?su_NoDeed ?a1 ?l1 ?c1 ?k1 ?a2 ?l2 ?c2 ?k2 ?a3 ?l3 ?c3 ?k3 ?a4 ?l4 ?c4 ?k4 ?a5 ?l5 ?c5 ?k5 ?a6 ?l6 ?c6 ?k6 ?a7 ?l7 ?c7 ?k7 ?a8 ?i8 ?l8 ?c8 ?k8 ?a9 ?i9 ?l9 ?c9 ?k9 ?a10 ?i10 ?l10 ?c10 ?k10 ?a11 ?i11 ?l11 ?c11 ?k11 ?a12 ?l12 ?c12 ?k12 ?a13 ?l13 ?c13 ?k13 ?a14 ?l14 ?c14 ?k14 ?a15 ?l15 ?c15 ?k15 ?a16 ?l16 ?c16 ?k16 ?a17 ?l17 ?c17 ?k17 ?a18 ?l18 ?c18 ?k18 ?a19 ?l19 ?c19 ?k19 ?a20 ?l20 ?c20 ?k20 ?a21 ?l21 ?c21 ?k21 ?a22 ?i22 ?l22 ?c22 ?k22 ?a23 ?i23 ?l23 ?c23 ?k23 ?a24 ?i24 ?l24 ?c24 ?k24 ?a25 ?i25 ?l25 ?c25 ?k25 ?a26 ?i26 ?l26 ?c26 ?k26 ?a27 ?i27 ?l27 ?c27 ?k27 ?a28 ?i28 ?l28 ?c28 ?k28 ?a29 ?i29 ?l29 ?c29 ?k29 ?a30 ?i30 ?l30 ?c30 ?k30 ?a31 ?i31 ?l31 ?c31 ?k31 ?a32 ?i32 ?l32 ?c32 ?k32 ?a33 ?i33 ?l33 ?c33 ?k33 ?a34 ?l34 ?c34 ?k34 ?a35 ?i35 ?l35 ?c35 ?k35 ?a36 ?l36 ?c36 ?k36 ?a37 ?l37 ?c37 ?k37 ?a38 ?l38 ?c38 ?k38 ?a39 ?l39 ?c39 ?k39 ?a40 ?i40 ?l40 ?c40 ?k40 ?a41 ?l41 ?c41 ?k41 ?a42 ?l42 ?c42 ?k42 ?a43 ?l43 ?c43 ?k43 ?tc_code ?tv_code ?td_code ?tn_code ?pg_Boxes ?hd_Boxes ?po_Boxes ?sa_Boxes ?mk_Boxes ?kc_Boxes ?n_Boxes__numbers ?pg_Hand ?hd_Hand ?po_Hand ?sa_Hand ?mk_Hand ?kc_Hand ?n_Hand__hand ?n_Hand__plan ?n_Hand__many ?n_Hand__ended ?n_Hand__ones ?n_Hand__took ?n_Hand__begin ?n_Hand__outcome ?n_Hand__reading ?n_Hand__readings ?n_Hand_steps ?pg_Hall ?hd_Hall ?po_Hall ?sa_Hall ?mk_Hall ?kc_Hall ?n_Hall__boxes ?n_Hall__hands ?n_Hall__records ?n_Hall__marks ?n_Hall__touches ?z_abs ?z_len ?z_max ?z_int ?z_range ?z_isinstance ?z_bool ?z_list ?z_sum ?z_min ?z_sorted ?z_tuple ?z_reversed ?z_zip ?z_str ?z_ValueError ?g_GREATEST ?g_MOST_HANDS ?g_MOST_DEEDS ?g_THINGS ?g_COUNTER ?g_LINE ?g_VIEW ?g_LIMIT own
    (case a_Boxes => k_is)
    (case a_Hand => k_is)
    (case a_Hall => k_is)
    (case a_HandsError => k_is)
    (case a_NoNumber => k_is)
    (case a_NoBox => k_is)
    (case a_NoHand => k_is)
    (case a_NoDeed => k_is)
    (case a_THING_OF => k_is)
    (case l_THING_OF => k_is)
    (case kk_THING_OF => k_keys)
    (case lo_THING_OF => decide)
    (case v0_THING_OF => k_is)
    (case v1_THING_OF => k_is)
    (case v2_THING_OF => k_is)
    (case v3_THING_OF => k_is)
    (case v4_THING_OF => k_is)
    (case v5_THING_OF => k_is)
    (case v6_THING_OF => k_is)
    (case v7_THING_OF => k_is)
    (case v8_THING_OF => k_is)
    (case v9_THING_OF => k_is)
    (case w0_THING_OF => k_is)
    (case w1_THING_OF => k_is)
    (case w2_THING_OF => k_is)
    (case w3_THING_OF => k_is)
    (case a_WITH_A_NUMBER => k_is)
    (case l_WITH_A_NUMBER => k_is)
    (case a_TELLING => k_is)
    (case l_TELLING => k_is)
    (case x_NoHand => k_exc)
    (case k_NoHand => k_is)
    (case b_NoHand => k_is)
    (case t_NoHand => k_is)
    (case bS_NoHand => k_is)
    (case hS_NoHand => k_is)
    (case tS_NoHand => k_is)
    (case u_NoHand => k_is)
    (case e1_NoHand => k_is)
    (case e2_NoHand => k_is)
    (case e3_NoHand => k_is)
    (case e4_NoHand => k_is)
    (case e5_NoHand => k_is)
    (case e6_NoHand => k_is)
    (case e7_NoHand => k_is)
    (case me_NoHand => kit_is)
    (case ve_NoHand => kit_is)
    (case su_NoHand => kit_is)
    (case no_NoHand_NoBox => kit_is)
    (case no_NoHand_NoNumber => kit_is)
    (case no_NoHand_NoDeed => kit_is)
    (case x_NoDeed => k_exc)
    (case k_NoDeed => k_is)
    (case b_NoDeed => k_is)
    (case t_NoDeed => k_is)
    (case bS_NoDeed => k_is)
    (case hS_NoDeed => k_is)
    (case tS_NoDeed => k_is)
    (case u_NoDeed => k_is)
    (case e1_NoDeed => k_is)
    (case e2_NoDeed => k_is)
    (case e3_NoDeed => k_is)
    (case e4_NoDeed => k_is)
    (case e5_NoDeed => k_is)
    (case e6_NoDeed => k_is)
    (case e7_NoDeed => k_is)
    (case me_NoDeed => kit_is)
    (case ve_NoDeed => kit_is)
    (case su_NoDeed => kit_is)
    (case a1 => k_is)
    (case l1 => k_is)
    (case c1 => k_is)
    (case k1 => k_is)
    (case a2 => k_is)
    (case l2 => k_is)
    (case c2 => k_is)
    (case k2 => k_is)
    (case a3 => k_is)
    (case l3 => k_is)
    (case c3 => k_is)
    (case k3 => k_is)
    (case a4 => k_is)
    (case l4 => k_is)
    (case c4 => k_is)
    (case k4 => k_is)
    (case a5 => k_is)
    (case l5 => k_is)
    (case c5 => k_is)
    (case k5 => k_is)
    (case a6 => k_is)
    (case l6 => k_is)
    (case c6 => k_is)
    (case k6 => k_is)
    (case a7 => k_is)
    (case l7 => k_is)
    (case c7 => k_is)
    (case k7 => k_is)
    (case a8 => k_is)
    (case i8 => k_is)
    (case l8 => k_is)
    (case c8 => k_is)
    (case k8 => k_is)
    (case a9 => k_is)
    (case i9 => k_is)
    (case l9 => k_is)
    (case c9 => k_is)
    (case k9 => k_is)
    (case a10 => k_is)
    (case i10 => k_is)
    (case l10 => k_is)
    (case c10 => k_is)
    (case k10 => k_is)
    (case a11 => k_is)
    (case i11 => k_is)
    (case l11 => k_is)
    (case c11 => k_is)
    (case k11 => k_is)
    (case a12 => k_is)
    (case l12 => k_is)
    (case c12 => k_is)
    (case k12 => k_is)
    (case a13 => k_is)
    (case l13 => k_is)
    (case c13 => k_is)
    (case k13 => k_is)
    (case a14 => k_is)
    (case l14 => k_is)
    (case c14 => k_is)
    (case k14 => k_is)
    (case a15 => k_is)
    (case l15 => k_is)
    (case c15 => k_is)
    (case k15 => k_is)
    (case a16 => k_is)
    (case l16 => k_is)
    (case c16 => k_is)
    (case k16 => k_is)
    (case a17 => k_is)
    (case l17 => k_is)
    (case c17 => k_is)
    (case k17 => k_is)
    (case a18 => k_is)
    (case l18 => k_is)
    (case c18 => k_is)
    (case k18 => k_is)
    (case a19 => k_is)
    (case l19 => k_is)
    (case c19 => k_is)
    (case k19 => k_is)
    (case a20 => k_is)
    (case l20 => k_is)
    (case c20 => k_is)
    (case k20 => k_is)
    (case a21 => k_is)
    (case l21 => k_is)
    (case c21 => k_is)
    (case k21 => k_is)
    (case a22 => k_is)
    (case i22 => k_is)
    (case l22 => k_is)
    (case c22 => k_is)
    (case k22 => k_is)
    (case a23 => k_is)
    (case i23 => k_is)
    (case l23 => k_is)
    (case c23 => k_is)
    (case k23 => k_is)
    (case a24 => k_is)
    (case i24 => k_is)
    (case l24 => k_is)
    (case c24 => k_is)
    (case k24 => k_is)
    (case a25 => k_is)
    (case i25 => k_is)
    (case l25 => k_is)
    (case c25 => k_is)
    (case k25 => k_is)
    (case a26 => k_is)
    (case i26 => k_is)
    (case l26 => k_is)
    (case c26 => k_is)
    (case k26 => k_is)
    (case a27 => k_is)
    (case i27 => k_is)
    (case l27 => k_is)
    (case c27 => k_is)
    (case k27 => k_is)
    (case a28 => k_is)
    (case i28 => k_is)
    (case l28 => k_is)
    (case c28 => k_is)
    (case k28 => k_is)
    (case a29 => k_is)
    (case i29 => k_is)
    (case l29 => k_is)
    (case c29 => k_is)
    (case k29 => k_is)
    (case a30 => k_is)
    (case i30 => k_is)
    (case l30 => k_is)
    (case c30 => k_is)
    (case k30 => k_is)
    (case a31 => k_is)
    (case i31 => k_is)
    (case l31 => k_is)
    (case c31 => k_is)
    (case k31 => k_is)
    (case a32 => k_is)
    (case i32 => k_is)
    (case l32 => k_is)
    (case c32 => k_is)
    (case k32 => k_is)
    (case a33 => k_is)
    (case i33 => k_is)
    (case l33 => k_is)
    (case c33 => k_is)
    (case k33 => k_is)
    (case a34 => k_is)
    (case l34 => k_is)
    (case c34 => k_is)
    (case k34 => k_is)
    (case a35 => k_is)
    (case i35 => k_is)
    (case l35 => k_is)
    (case c35 => k_is)
    (case k35 => k_is)
    (case a36 => k_is)
    (case l36 => k_is)
    (case c36 => k_is)
    (case k36 => k_is)
    (case a37 => k_is)
    (case l37 => k_is)
    (case c37 => k_is)
    (case k37 => k_is)
    (case a38 => k_is)
    (case l38 => k_is)
    (case c38 => k_is)
    (case k38 => k_is)
    (case a39 => k_is)
    (case l39 => k_is)
    (case c39 => k_is)
    (case k39 => k_is)
    (case a40 => k_is)
    (case i40 => k_is)
    (case l40 => k_is)
    (case c40 => k_is)
    (case k40 => k_is)
    (case a41 => k_is)
    (case l41 => k_is)
    (case c41 => k_is)
    (case k41 => k_is)
    (case a42 => k_is)
    (case l42 => k_is)
    (case c42 => k_is)
    (case k42 => k_is)
    (case a43 => k_is)
    (case l43 => k_is)
    (case c43 => k_is)
    (case k43 => k_is)
    (case tc_code => first | k_is | exact rfl | decide +kernel)
    (case tv_code => exact rfl)
    (case td_code => first | k_is | exact rfl | decide +kernel)
    (case tn_code => first | k_is | exact rfl | decide +kernel)
    (case pg_Boxes => k_is)
    (case hd_Boxes => k_is)
    (case po_Boxes => k_is)
    (case sa_Boxes => k_is)
    (case mk_Boxes => k_is)
    (case kc_Boxes => k_is)
    (case n_Boxes__numbers => k_is)
    (case pg_Hand => k_is)
    (case hd_Hand => k_is)
    (case po_Hand => k_is)
    (case sa_Hand => k_is)
    (case mk_Hand => k_is)
    (case kc_Hand => k_is)
    (case n_Hand__hand => k_is)
    (case n_Hand__plan => k_is)
    (case n_Hand__many => k_is)
    (case n_Hand__ended => k_is)
    (case n_Hand__ones => k_is)
    (case n_Hand__took => k_is)
    (case n_Hand__begin => k_is)
    (case n_Hand__outcome => k_is)
    (case n_Hand__reading => k_is)
    (case n_Hand__readings => k_is)
    (case n_Hand_steps => k_is)
    (case pg_Hall => k_is)
    (case hd_Hall => k_is)
    (case po_Hall => k_is)
    (case sa_Hall => k_is)
    (case mk_Hall => k_is)
    (case kc_Hall => k_is)
    (case n_Hall__boxes => k_is)
    (case n_Hall__hands => k_is)
    (case n_Hall__records => k_is)
    (case n_Hall__marks => k_is)
    (case n_Hall__touches => k_is)
    (case z_abs => k_is)
    (case z_len => k_is)
    (case z_max => k_is)
    (case z_int => k_is)
    (case z_range => k_is)
    (case z_isinstance => k_is)
    (case z_bool => k_is)
    (case z_list => k_is)
    (case z_sum => k_is)
    (case z_min => k_is)
    (case z_sorted => k_is)
    (case z_tuple => k_is)
    (case z_reversed => k_is)
    (case z_zip => k_is)
    (case z_str => k_is)
    (case z_ValueError => k_is)
    (case g_GREATEST => k_is)
    (case g_MOST_HANDS => k_is)
    (case g_MOST_DEEDS => k_is)
    (case g_THINGS => k_is)
    (case g_COUNTER => k_is)
    (case g_LINE => k_is)
    (case g_VIEW => k_is)
    (case g_LIMIT => k_is)
