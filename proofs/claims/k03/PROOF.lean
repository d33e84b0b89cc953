import PyProof.Rows.All
import Wide.All
import OpenK.AllK
import Wide.FinOn
import HandS.ForMost
import HandS.ForExc
import HandS.IsInst
import HandS.ExcIs
import HandS.Codes
import KE.RegKIsAll
import PySem.Challenge.RW_stillhands_k03_boxes
set_option Elab.async false
set_option linter.all false
set_option maxRecDepth 100000
set_option maxHeartbeats 4000000
/-! words of mine over the hand layer: a def that the module holds under a name (Cal), its call; lists; the draws of a script -/
namespace Sd
open PySem L2
/-- the module's name x holds a def that keeps sp -/
structure Cal (P : Program) (w : World) (K : PySem.W.Frag) (mg : Str → Option Value) (base : Heap) (CX : CXT) (k : Nat) (x : Str) (ps : List Str) (sp : Sp) : Prop where
  ex : ∃ f fd, mg x = some (.ref f) ∧ PySem.W.keepIn K (.ref f) = true ∧ Binds K fd ps [] ∧ FnOk P w K mg base CX k f fd ps sp
section
variable {X : Cx} {CX : CXT} {k : Nat} {ps : List Str} {sp : Sp} {E : XK} {x : Str} {p pos : Pos} {e : Expr} {es : List Expr} {t : TA}
theorem pe_fn (c : Cal X.prog X.w X.K X.mg X.base CX k x ps sp) (hr : Room k X.A) (hx : Passes CX X E) (ha : PA X (e :: es) t) (hg : Gl X x := by rfl)
    (hdb : (x == ("__debug__" : Str)) = false := by decide) (he : starEach (e :: es) X.env = (false, eval e X.env) :: starEach es X.env := by rfl) (hpl : (backTo pos (starEach es X.env)).any (·.1) = false := by rfl) :
    PE X (.Call (.Name x p) (e :: es) [] pos) (tCall sp [] E t) := by
  obtain ⟨f, fd, hm, hk, hb, F⟩ := c.ex
  exact pe_call F hr hg hm hk hb .nil hx ha hdb he hpl
theorem pe_fn0 (c : Cal X.prog X.w X.K X.mg X.base CX k x ps sp) (hr : Room k X.A) (hx : Passes CX X E) (hg : Gl X x := by rfl)
    (hdb : (x == ("__debug__" : Str)) = false := by decide) : PE X (.Call (.Name x p) [] [] pos) (tCall sp [] E tNil) := by
  obtain ⟨f, fd, hm, hk, hb, F⟩ := c.ex
  exact pe_call0 F hr hg hm hk hb .nil hx hdb
end
theorem Cal.mk' {P : Program} {w : World} {K : PySem.W.Frag} {mg : Str → Option Value} {base : Heap} {CX : CXT} {k : Nat} {x q : Str} {st : Stmt} {f : Addr} {fd : FuncData} {ps : List Str} {sp : Sp}
    (F : Fun K x q st f fd) (hm : mg x = some (.ref f)) (b : Binds K fd ps []) (G : FnOk P w K mg base CX k f fd ps sp) : Cal P w K mg base CX k x ps sp := ⟨f, fd, hm, F.kp, b, G⟩

/-! ### heaps -/
/-- what was tracked stands, but for the object at d -/
def But (d : Addr) (H H' : Hp) : Prop := ∀ b o, b ≠ d → H b = some o → H' b = some o
theorem But.refl (d : Addr) (H : Hp) : But d H H := fun _ _ _ h => h
theorem But.trans {d : Addr} {H H1 H2 : Hp} (a : But d H H1) (b : But d H1 H2) : But d H H2 := fun c o n h => b c o n (a c o n h)
theorem But.upd {d : Addr} {H : Hp} {o : HO} : But d H (upd H d o) := fun b u n h => by
  rw [upd_ne n]
  exact h
theorem Same.but {d : Addr} {H H' : Hp} (s : Same H H') : But d H H' := fun b o _ h => s b o h
theorem Same.new {H : Hp} {p : Addr} {o : HO} (h : H p = none) : Same H (upd H p o) := fun b u e => by
  rw [upd_ne (ne_of_none e h)]
  exact e
theorem Same.new2 {H : Hp} {p : Addr} {o o2 : HO} (h : H p = none) : Same H (upd (upd H p o) p o2) := fun b u e => by
  rw [upd_ne (ne_of_none e h), upd_ne (ne_of_none e h)]
  exact e
theorem But.same {d : Addr} {H H' : Hp} (s : But d H H') (h : H d = none) : Same H H' := fun b o e => s b o (ne_of_none e h) e
/-- the heap H' tracks what it did, and at d what it says -/
theorem But.free {d : Addr} {H H' : Hp} (s : But d H H') {u : HO} (hd : H' d = some u) {l : Addr} (h : H' l = none) : H l = none := by
  cases q : H l with
  | none => rfl
  | some o =>
    have n : l ≠ d := fun z => by
      rw [z, hd] at h
      cases h
    rw [s l o n q] at h
    cases h
theorem SqL.new {K : PySem.W.Frag} {H : Hp} {a p : Addr} {xs : List V} {o : HO} (h : SqL K H a xs) (n : H p = none) : SqL K (upd H p o) a xs := Same.seq (Same.new n) h
theorem SqL.but {K : PySem.W.Frag} {H H' : Hp} {a d : Addr} {xs : List V} (h : SqL K H a xs) (s : But d H H') (n : a ≠ d ∨ H d = none) : SqL K H' a xs := by
  rcases n with n | n
  · rcases h with (h | ⟨o, h⟩) | h
    · exact .inl (.inl (s _ _ n h))
    · exact .inl (.inr ⟨o, s _ _ n h⟩)
    · exact .inr h
  · exact Same.seq (s.same n) h
/-- a list that holds the object p is no list of ints -/
theorem SqL.keep {K : PySem.W.Frag} {H H' : Hp} {a d : Addr} {xs ys : List V} (h : SqL K H a xs) (s : But d H H') (hd : H d = some (.lst ys)) (n : ys ≠ xs) : SqL K H' a xs := by
  rcases h with (h | ⟨o, h⟩) | h
  · refine .inl (.inl (s _ _ (fun z => ?_) h))
    rw [z, hd] at h
    exact n (by cases h; rfl)
  · refine .inl (.inr ⟨o, s _ _ (fun z => ?_) h⟩)
    rw [z, hd] at h
    cases h
  · exact .inr h

/-! ### lists of ints -/
theorem ints_get {ns : List Int} {j : Nat} {v : Int} (h : ns[j]? = some v) : (ns.map V.int)[j]? = some (.int v) := by
  rw [List.getElem?_map, h]
  rfl
theorem ints_got {ns : List Int} {j : Nat} {y : V} (h : (ns.map V.int)[j]? = some y) : ∃ v, ns[j]? = some v ∧ y = .int v := by
  rw [List.getElem?_map] at h
  cases e : ns[j]? with
  | none =>
    rw [e] at h
    cases h
  | some v =>
    rw [e] at h
    exact ⟨v, rfl, (Option.some.inj h).symm⟩
theorem ixN_nat {n j : Nat} (hj : j < n) : ixN n ((j : Nat) : Int) = some j := by
  unfold ixN
  rw [if_pos (Int.natCast_nonneg j), if_pos (by omega), Int.toNat_natCast]
theorem size1 {n : Int} (h0 : 0 ≤ n) (h1 : n ≤ 100000) : 1 * n.toNat ≤ sizeLine := Nat.le_trans (by omega : 1 * n.toNat ≤ 100000) (by decide)
def dInts (ns : List Int) : PyData := .list (ns.map PyData.int)
theorem dInts_all {K : PySem.W.Frag} {H : Hp} : ∀ ns : List Int, DpAll K H (ns.map V.int) (ns.map PyData.int)
  | [] => .nil
  | n :: r => .cons (.int n) (dInts_all r)
theorem dInts_dp {K : PySem.W.Frag} {H : Hp} {a : Addr} {ns : List Int} (h : SqL K H a (ns.map V.int)) : Dp K H (.ref a) (dInts ns) := .lst h (dInts_all ns)
theorem lay_ints : ∀ ns : List Int, PyData.canLayAll0 (ns.map PyData.int) = true
  | [] => rfl
  | n :: r => by
    have h := lay_ints r
    show (PyData.canLay0 (.int n) && PyData.canLayAll0 (r.map PyData.int)) = true
    rw [h]
    rfl
theorem depth_ints : ∀ ns : List Int, PyData.depthAll (ns.map PyData.int) = 0
  | [] => rfl
  | n :: r => by
    have h := depth_ints r
    show max (PyData.depth (.int n)) (PyData.depthAll (r.map PyData.int)) = 0
    rw [h]
    rfl
theorem dInts_shaped (ns : List Int) : SeqAt.shaped (dInts ns) = true := by
  have h1 : PyData.canLay0 (dInts ns) = true := lay_ints ns
  have h2 : PyData.depth (dInts ns) = PyData.depthAll (ns.map PyData.int) + 1 := rfl
  rw [depth_ints] at h2
  unfold SeqAt.shaped
  rw [h1, h2]
  rfl
theorem eqv_all : ∀ ns : List Int, PyData.eqvAll (ns.map PyData.int) (ns.map PyData.int) = true
  | [] => rfl
  | n :: r => by
    have h := eqv_all r
    show (PyData.eqv (.int n) (.int n) && PyData.eqvAll (r.map PyData.int) (r.map PyData.int)) = true
    rw [h]
    show ((n == n) && true) = true
    rw [beq_self_eq_true]
    rfl
theorem eqv_ints (ns : List Int) : PyData.eqv (dInts ns) (dInts ns) = true := eqv_all ns
/-- an if whose test is known -/
theorem if_no {c : Bool} {A B : Prop} (h : c = true) (q : B) : if (!c) = true then A else B := by
  rw [h]
  exact q
theorem if_yes {c : Bool} {A B : Prop} (h : c = true) (q : A) : if c = true then A else B := by
  rw [h]
  exact q
theorem if_not {c : Bool} {A B : Prop} (h : c = false) (q : B) : if c = true then A else B := by
  rw [h]
  exact q
theorem ty_int {K : PySem.W.Frag} {H : Hp} {i : Int} : TyX K H (.int i) (.type "int") := .base (.int i)
theorem ty_lst {K : PySem.W.Frag} {H : Hp} {a : Addr} {xs : List V} (h : H a = some (.lst xs)) : TyX K H (.ref a) (.type "list") := .base (.lst h)
/-- a list that stood where p was free stands when p's object is laid or changed -/
theorem SqL.upd0 {K : PySem.W.Frag} {H0 H : Hp} {a p : Addr} {xs : List V} {o : HO} (h0 : SqL K H0 a xs) (hp : H0 p = none) (h : SqL K H a xs) : SqL K (upd H p o) a xs := by
  rcases h0 with h0 | h0
  · have n : a ≠ p := by
      rcases h0 with h0 | ⟨u, h0⟩
      · exact ne_of_none h0 hp
      · exact ne_of_none h0 hp
    exact SqL.but h (But.upd (d := p)) (.inl n)
  · exact .inr h0
theorem rep_flat (n : Nat) (i : Int) : (List.replicate n [V.int i]).flatten = (List.replicate n i).map V.int := by
  induction n with
  | zero => rfl
  | succ n ih =>
    rw [List.replicate_succ, List.replicate_succ, List.flatten_cons, ih]
    rfl
/-- an instance that is made: what stood, stands -/
theorem made_same {H H' : Hp} {x dx : Addr} {u v : HO} (h1 : H x = none) (h2 : H dx = none) (b : But x (upd (upd H dx u) x v) H') : Same H H' := fun c o e => by
  have n1 : c ≠ x := ne_of_none e h1
  have n2 : c ≠ dx := ne_of_none e h2
  refine b c o n1 ?_
  rw [upd_ne n1, upd_ne n2]
  exact e
theorem made_free {H : Hp} {x dx l : Addr} {u v : HO} (h1 : H x = none) (h2 : H dx = none) (h : upd (upd H dx u) x v l = none) : H l = none := by
  cases q : H l with
  | none => rfl
  | some o =>
    have n1 : l ≠ x := ne_of_none q h1
    have n2 : l ≠ dx := ne_of_none q h2
    rw [upd_ne n1, upd_ne n2, q] at h
    cases h
/-- a list that stood where p was free stands whatever p's object becomes -/
theorem SqL.other {K : PySem.W.Frag} {H0 H H' : Hp} {a p : Addr} {xs : List V} (h0 : SqL K H0 a xs) (hp : H0 p = none) (h : SqL K H a xs) (s : But p H H') : SqL K H' a xs := by
  rcases h0 with h0 | h0
  · have n : a ≠ p := by
      rcases h0 with h0 | ⟨u, h0⟩
      · exact ne_of_none h0 hp
      · exact ne_of_none h0 hp
    exact SqL.but h s (.inl n)
  · exact .inr h0
end Sd

/-! words of mine for refusals: what is raised, caught and looked at -/
namespace Sd
open PySem L2
section
variable {X : Cx} {CX : CXT} {k : Nat} {ps : List Str} {sp : Sp} {E : St → XK} {x : Str} {p pos : Pos} {e : Expr} {es : List Expr} {t : TA}
/-- a call in a try: what is raised is wished for at the slots -/
theorem pe_fnS (c : Cal X.prog X.w X.K X.mg X.base CX k x ps sp) (hr : Room k X.A) (hx : ∀ σ, PassesAt CX X σ (E σ)) (ha : PA X (e :: es) t) (hg : Gl X x := by rfl)
    (hdb : (x == ("__debug__" : Str)) = false := by decide) (he : starEach (e :: es) X.env = (false, eval e X.env) :: starEach es X.env := by rfl) (hpl : (backTo pos (starEach es X.env)).any (·.1) = false := by rfl) :
    PE X (.Call (.Name x p) (e :: es) [] pos) (tCallS sp E t) := by
  obtain ⟨f, fd, hm, hk, hb, F⟩ := c.ex
  exact pe_callS F hr hg hm hk hb hx ha hdb he hpl
end
/-- the error class at C, caught by the clause's class at S, and none of the classes at os -/
structure Ref (K : PySem.W.Frag) (C S : Addr) (os : List Addr) : Prop where
  ex : PySem.W.excIn K C [.type "ValueError", .type "Exception", .type "BaseException", .type "object"] "ValueError.__new__" = true
  kp : PySem.W.keepIn K (.ref C) = true
  b : PySem.W.subIn K (.ref C) (.type "BaseException") = some true
  t : PySem.W.typeIn K (.ref C) = some (.type "type")
  bS : PySem.W.subIn K (.ref S) (.type "BaseException") = some true
  hS : PySem.W.hasDictIn K S = true
  tS : PySem.W.typeIn K (.ref S) = some (.type "type")
  sub : PySem.W.subIn K (.ref C) (.ref S) = some true
  ec : ExcC K C
  me : PySem.W.kitOne K (.ref C) (.ref C) = some true
  ve : PySem.W.kitOne K (.ref C) (.type "ValueError") = some true
  no : ∀ o ∈ os, PySem.W.kitOne K (.ref C) (.ref o) = some false
theorem Ref.caught {K : PySem.W.Frag} {C S : Addr} {os : List Addr} (r : Ref K C S os) : PySem.W.exmOne K (.ref C) (.ref S) = some true := PySem.W.exm_ref r.bS r.hS r.tS r.sub
theorem Ref.none {K : PySem.W.Frag} {C S : Addr} : ∀ {os : List Addr}, (∀ o ∈ os, PySem.W.kitOne K (.ref C) (.ref o) = some false) → PySem.W.kitAny K (.ref C) (os.map Value.ref) = some false
  | [], _ => kitAny_nil
  | o :: os, h => kitAny_cons (h o List.mem_cons_self) (fun _ => Ref.none (S := S) fun x hx => h x (List.mem_cons_of_mem _ hx)) (fun z => by cases z)
theorem clsAll : ∀ os : List Addr, Paired ClsV (os.map V.ref) (os.map Value.ref)
  | [] => .nil
  | o :: os => .cons (.own o) (clsAll os)
/-- isinstance(e, c), e what the suite holds: one class, a tuple of classes -/
def rIsX (K : PySem.W.Frag) (a : Addr) (cls : Value) (d : Option Addr) : List V → Hp → VK → Prop := fun xs H Q => ∃ (D : Addr) (c : V) (cv : Value) (b : Bool),
  xs = [.ref a, c] ∧ cls = .ref D ∧ d = Option.none ∧ ExcC K D ∧ ClsV c cv ∧ PySem.W.kitOne K (.ref D) cv = some b ∧ Q (.bl b) H
def rIsXT (K : PySem.W.Frag) (a : Addr) (cls : Value) (d : Option Addr) : List V → Hp → VK → Prop := fun xs H Q => ∃ (D tp : Addr) (cs : List V) (us : List Value) (b : Bool),
  xs = [.ref a, .ref tp] ∧ cls = .ref D ∧ d = Option.none ∧ ExcC K D ∧ H tp = some (.tup cs) ∧ Paired ClsV cs us ∧ PySem.W.kitAny K (.ref D) us = some b ∧ Q (.bl b) H
theorem call_isX {X : Cx} {a : Addr} {cls : Value} {d : Option Addr} {oe : Obj} {pn : List (Addr × Obj)} (hz : Zc cls d oe) (hf : ∃ vs, oe.data = .fields vs) : CallR (X.suite a ((a, oe) :: pn)) (.builtin "isinstance") (rIsX X.K a cls d) := by
  intro pins s σ H xs us Q I r h
  obtain ⟨D, c, cv, b, rfl, rfl, rfl, C, k, e, q⟩ := h
  exact call_isE C hz hf pins s σ H [.ref a, c] us Q I r ⟨c, cv, b, rfl, fun u ru => k.eq ru, e, q⟩
theorem call_isXT {X : Cx} {a : Addr} {cls : Value} {d : Option Addr} {oe : Obj} {pn : List (Addr × Obj)} (hz : Zc cls d oe) (hf : ∃ vs, oe.data = .fields vs) : CallR (X.suite a ((a, oe) :: pn)) (.builtin "isinstance") (rIsXT X.K a cls d) := by
  intro pins s σ H xs us Q I r h
  obtain ⟨D, tp, cs, ws, b, rfl, rfl, rfl, C, hT, k, e, q⟩ := h
  obtain ⟨u1, u2, rfl, r1, r2⟩ := vals2 r
  cases (show u1 = Value.ref a from r1)
  cases (show u2 = Value.ref tp from r2)
  obtain ⟨hget, _⟩ := I.pin (a, oe) (List.mem_append.mpr (.inl List.mem_cons_self))
  obtain ⟨vs, hv⟩ := hf
  have J : PySem.W.InstAt s.heap a oe D none := by
    obtain ⟨oc, od, oda, osl⟩ := oe
    obtain ⟨h1, h2⟩ := hz
    dsimp only at h1 h2 hv
    subst h1 h2 hv
    exact ⟨hget, rfl, rfl, trivial⟩
  obtain ⟨_, its, rv, o, h1, h2, n, h3⟩ := (show ObjOk X.prog X.w H s.heap tp (.tup cs) from I.hok tp _ hT)
  have e3 := ClsV.all k rv
  subst e3
  obtain ⟨oc, od, dt, sl⟩ := o
  simp only at h2 h3
  subst h2 h3
  exact PySem.W.kia_tup (PySem.W.handS_kitx_exc C.hg C.hk C.hs C.hd C.ha C.hn C.ht C.hm) I.kIn J h1 e (fun z => nomatch z) fun tk => ⟨.bl b, H, I.kept (t' := tk) fun _ _ z => z, rfl, q⟩
end Sd

/-! words of mine for classes: a method, a call of the class -/
namespace Sd
open PySem L2
structure CalM (P : Program) (w : World) (K : PySem.W.Frag) (mg : Str → Option Value) (base : Heap) (CX : CXT) (k : Nat) (C : Addr) (m : Str) (ps : List Str) (sp : Sp) : Prop where
  cl : Cls K C
  ex : ∃ f fd, Meth K C m f ∧ Binds K fd ps [] ∧ FnOk P w K mg base CX k f fd ps sp
structure CalI (P : Program) (w : World) (K : PySem.W.Frag) (mg : Str → Option Value) (base : Heap) (CX : CXT) (k : Nat) (x : Str) (C : Addr) (ps : List Str) (sp : Sp) : Prop where
  at_ : mg x = some (.ref C)
  ex : ∃ f fd, Mk K C f ∧ Binds K fd ps [] ∧ FnOk P w K mg base CX k f fd ps sp
section
variable {P : Program} {w : World} {K : PySem.W.Frag} {mg : Str → Option Value} {base : Heap} {CX : CXT} {k : Nat} {x q m : Str} {st : Stmt} {f C : Addr} {fd : FuncData} {ps : List Str} {sp : Sp}
theorem CalM.mk' (_ : Fun K m q st f fd) (c : Cls K C) (h : Meth K C m f) (b : Binds K fd ps []) (G : FnOk P w K mg base CX k f fd ps sp) : CalM P w K mg base CX k C m ps sp := ⟨c, f, fd, h, b, G⟩
theorem CalI.mk' (_ : Fun K m q st f fd) (hm : mg x = some (.ref C)) (h : Mk K C f) (b : Binds K fd ps []) (G : FnOk P w K mg base CX k f fd ps sp) : CalI P w K mg base CX k x C ps sp := ⟨hm, f, fd, h, b, G⟩
end
section
variable {X : Cx} {CX : CXT} {k : Nat} {C : Addr} {ps : List Str} {sp : Sp} {E : XK} {ES : St → XK} {x m : Str} {p pos apos : Pos} {e o : Expr} {es : List Expr} {ta : TE} {t : TA}
/-- how the text's call of a method goes: the object, the method found, its arguments -/
abbrev Goes (X : Cx) (o : Expr) (m : Str) (es : List Expr) (apos pos : Pos) (pl : Sem Bool) : Prop :=
  eval (.Call (.Attribute o m apos) es [] pos) X.env =
    (eval o X.env >>= fun v => standAt apos.atName >>= fun _ => holding [v] (getMethod v m pl) >>= fun g => callWith pos g.1 g.2 (backTo pos (starEach es X.env)) (backToKw pos (keywordEach [] X.env)))
theorem pe_mt {pl : Sem Bool} (c : CalM X.prog X.w X.K X.mg X.base CX k C m ps sp) (hr : Room k X.A) (hx : Passes CX X E) (he : PE X o ta) (ha : PA X (e :: es) t)
    (hst : starEach (e :: es) X.env = (false, eval e X.env) :: starEach es X.env := by rfl) (hpl : (backTo pos (starEach es X.env)).any (·.1) = false := by rfl)
    (ht : Goes X o m (e :: es) apos pos pl := by rfl) : PE X (.Call (.Attribute o m apos) (e :: es) [] pos) (tMeth C m sp [] E ta t) := by
  obtain ⟨f, fd, hm, hb, F⟩ := c.ex
  exact pe_meth he c.cl hm F hr hb .nil hx ha hst hpl ht
theorem pe_mt0 {pl : Sem Bool} (c : CalM X.prog X.w X.K X.mg X.base CX k C m ps sp) (hr : Room k X.A) (hx : Passes CX X E) (he : PE X o ta)
    (ht : Goes X o m [] apos pos pl := by rfl) : PE X (.Call (.Attribute o m apos) [] [] pos) (tMeth C m sp [] E ta tNil) := by
  obtain ⟨f, fd, hm, hb, F⟩ := c.ex
  exact pe_meth0 he c.cl hm F hr hb .nil hx ht
/-- .. in a try: what is raised is wished for at the slots -/
def tMtS (C : Addr) (m : Str) (sp : Sp) (E : St → XK) (ta : TE) (t : TA) : TE := fun σ H Q =>
  ta σ H fun x H1 => ∃ a dx fs, x = .ref a ∧ H1 a = some (.ins C dx fs) ∧ fs.lookup m = none ∧ t σ H1 fun vs H2 => sp (x :: vs) H2 Q (E σ)
theorem pe_mtS {pl : Sem Bool} (c : CalM X.prog X.w X.K X.mg X.base CX k C m ps sp) (hr : Room k X.A) (hx : ∀ σ, PassesAt CX X σ (ES σ)) (he : PE X o ta) (ha : PA X (e :: es) t)
    (hst : starEach (e :: es) X.env = (false, eval e X.env) :: starEach es X.env := by rfl) (hpl : (backTo pos (starEach es X.env)).any (·.1) = false := by rfl)
    (ht : Goes X o m (e :: es) apos pos pl := by rfl) : PE X (.Call (.Attribute o m apos) (e :: es) [] pos) (tMtS C m sp ES ta t) := by
  obtain ⟨f, fd, hm, hb, F⟩ := c.ex
  refine ⟨fun pins s σ H R I h => PySem.W.methodCall_KW (pl := pl) (thn (he.run pins s σ H _ I h) fun u s1 hh => ?_) ht⟩
  obtain ⟨y, H1, I1, ry, a, dx, fs, rfl, hins, hno, q⟩ := hh
  cases (show u = Value.ref a from ry)
  refine getmeth_ok I1 hins c.cl hm hno (PySem.W.callWith_K (first := [.ref a]) (h₀ := X.base) I.ok.mod.kin hm.kp (thn (ha.run pos pins s1 σ H1 _ I1 q) fun us s2 h2 => ?_) hst hpl)
  obtain ⟨vs, H2, I2, rv, q2⟩ := h2
  exact ⟨I2.kIn, run_fnS (us := .ref a :: us) (vs := .ref a :: vs) F hr hb (hx σ) I2 (.cons rfl rv) q2⟩
theorem pe_mk (c : CalI X.prog X.w X.K X.mg X.base CX k x C ps sp) (hr : Room (k + 1) X.A) (hx : Passes CX X E) (ha : PA X (e :: es) t) (hg : Gl X x := by rfl)
    (hdb : (x == ("__debug__" : Str)) = false := by decide) (he : starEach (e :: es) X.env = (false, eval e X.env) :: starEach es X.env := by rfl) (hpl : (backTo pos (starEach es X.env)).any (·.1) = false := by rfl) :
    PE X (.Call (.Name x p) (e :: es) [] pos) (tMake C sp [] E t) := by
  obtain ⟨f, fd, M, hb, F⟩ := c.ex
  exact pe_make M F hr hg c.at_ hb .nil hx ha hdb he hpl
theorem pe_mk0 (c : CalI X.prog X.w X.K X.mg X.base CX k x C ps sp) (hr : Room (k + 1) X.A) (hx : Passes CX X E) (hg : Gl X x := by rfl)
    (hdb : (x == ("__debug__" : Str)) = false := by decide) : PE X (.Call (.Name x p) [] [] pos) (tMake C sp [] E tNil) := by
  obtain ⟨f, fd, M, hb, F⟩ := c.ex
  exact pe_make0 M F hr hg c.at_ hb .nil hx hdb
end
end Sd

/-! the draws of a script: _law_cell, _law_dice, _law_off -/
namespace Sd
open PySem L2
theorem b01 (c : Bool) : -(2 ^ 64) < (if c = true then (1 : Int) else 0) ∧ (if c = true then (1 : Int) else 0) < 2 ^ 64 := by
  cases c with
  | true =>
    rw [if_pos rfl]
    decide
  | false =>
    rw [if_neg Bool.false_ne_true]
    decide
def spCell (K : PySem.W.Frag) : Sp := fun vs H Q _ => ∃ (a : Addr) (ns : List Int) (k : Int), vs = [.ref a, .int k] ∧ 0 ≤ k ∧ SqL K H a (ns.map V.int) ∧ ∀ v : Int, Q (.int v) H
/-- what the draws go on with stands at d: four things, the second one the script's list -/
def Dice (H : Hp) (d a : Addr) : Prop := ∃ n k g : Int, H d = some (.lst [.int n, .ref a, .int k, .int g])
theorem Dice.but {H H' : Hp} {d a e : Addr} (h : Dice H d a) (b : But e H H') (n : d ≠ e) : Dice H' d a := by
  obtain ⟨x, k, g, h⟩ := h
  exact ⟨x, k, g, b _ _ n h⟩
theorem Dice.same {H H' : Hp} {d a : Addr} (h : Dice H d a) (s : Same H H') : Dice H' d a := by
  obtain ⟨x, k, g, h⟩ := h
  exact ⟨x, k, g, s _ _ h⟩
theorem Dice.some {H : Hp} {d a : Addr} (h : Dice H d a) : ∃ u, H d = some u := by
  obtain ⟨x, k, g, h⟩ := h
  exact ⟨_, h⟩
theorem Dice.ne {H : Hp} {d a p : Addr} (h : Dice H d a) (n : H p = none) : d ≠ p := by
  obtain ⟨x, k, g, h⟩ := h
  exact ne_of_none h n
/-- the script stands, whatever the draws' list becomes -/
theorem Dice.seq {K : PySem.W.Frag} {H H' : Hp} {d a : Addr} {ns : List Int} (h : Dice H d a) (b : But d H H') (s : SqL K H a (ns.map V.int)) : SqL K H' a (ns.map V.int) := by
  obtain ⟨n, k, g, h⟩ := h
  refine Sd.SqL.keep s b h (fun e => ?_)
  cases ns with
  | nil => cases e
  | cons x r =>
    cases r with
    | nil => cases e
    | cons y r =>
      have e2 := (List.cons.inj (List.cons.inj e).2).1
      cases e2
theorem Dice.ne_ints {H : Hp} {d a l : Addr} {xs : List Int} (h : Dice H d a) (hl : H l = Option.some (.lst (xs.map V.int))) : l ≠ d := fun z => by
  obtain ⟨n, k, g, h⟩ := h
  rw [z, h] at hl
  have e := (HO.lst.inj (Option.some.inj hl))
  cases xs with
  | nil => cases e
  | cons x r =>
    cases r with
    | nil => cases e
    | cons y r => cases (List.cons.inj (List.cons.inj e).2).1
def spDice (K : PySem.W.Frag) : Sp := fun vs H Q _ => ∃ (a : Addr) (ns : List Int) (k : Int), vs = [.ref a, .int k] ∧ 0 ≤ k ∧ SqL K H a (ns.map V.int) ∧
  ∀ (p : Addr) (H' : Hp), H p = none → Same H H' → But p H H' → Dice H' p a → (∀ b, b ≠ p → H' b = H b) → Q (.ref p) H'
def spOff (K : PySem.W.Frag) : Sp := fun vs H Q _ => ∃ (d a : Addr) (ns : List Int) (m : Int), vs = [.ref d, .int m] ∧ Dice H d a ∧ SqL K H a (ns.map V.int) ∧ 0 < m ∧ m < 1073741824 ∧
  ∀ (r : Int) (H' : Hp), 0 ≤ r → r < m → Dice H' d a → (∀ b, b ≠ d → H' b = H b) → Q (.int r) H'
end Sd

namespace K03
open PySem L2
def top (i : Nat) : Stmt := PySem.Challenge.pw_stillhands_k03_boxes.main.body.getD i (.Pass ⟨0, 0, 0, 0⟩)
abbrev s_Boxes__init_ : Stmt := inClass (top 7) 0
abbrev s_Boxes_take : Stmt := inClass (top 7) 1
abbrev s_Boxes_put : Stmt := inClass (top 7) 2
abbrev s_Boxes_need : Stmt := inClass (top 7) 3
abbrev s_l_cell : Stmt := top 9
abbrev s_l_dice : Stmt := top 10
abbrev s_l_off : Stmt := top 11
abbrev s_l_refused : Stmt := top 12
abbrev s_l_taken : Stmt := top 13
abbrev s_law : Stmt := top 14
structure Dr (K : PySem.W.Frag) (mg : Str → Option Value) : Prop where
  abs : mg "abs" = none
  len : mg "len" = none
  max : mg "max" = none
  int : mg "int" = none
structure Txt (K : PySem.W.Frag) (mg : Str → Option Value) (A_Boxes A_HandsError A_NoNumber A_NoBox A_NoHand A_NoDeed : Addr) : Prop extends Dr K mg where
  range : mg "range" = none
  isinstance : mg "isinstance" = none
  bool : mg "bool" = none
  ValueError : mg "ValueError" = none
  m_Boxes : mg "Boxes" = some (.ref A_Boxes)
  cl_Boxes : Cls K A_Boxes
  n_Boxes__numbers : NoAttr K A_Boxes "_numbers"
  m_HandsError : mg "HandsError" = some (.ref A_HandsError)
  m_NoNumber : mg "NoNumber" = some (.ref A_NoNumber)
  m_NoBox : mg "NoBox" = some (.ref A_NoBox)
  m_NoHand : mg "NoHand" = some (.ref A_NoHand)
  m_NoDeed : mg "NoDeed" = some (.ref A_NoDeed)
  r_NoBox : Sd.Ref K A_NoBox A_HandsError [A_NoNumber, A_NoDeed, A_NoHand]
/-! ### boxes -/
abbrev fs1 (l : Addr) : List (Str × V) := [(("_numbers" : Str), V.ref l)]
theorem fs1_no {f : Str} (l : Addr) (h : ¬ f = "_numbers") : (fs1 l).lookup f = none := by
  have hb : (f == ("_numbers" : Str)) = false := by
    cases e : f == ("_numbers" : Str) with
    | false => rfl
    | true => exact absurd (beq_iff_eq.mp e) h
  show List.lookup f [(("_numbers" : Str), V.ref l)] = none
  rw [List.lookup_cons, hb]
  rfl
theorem fs1_at (l : Addr) : (fs1 l).lookup ("_numbers" : Str) = some (V.ref l) := by
  have hb : (("_numbers" : Str) == ("_numbers" : Str)) = true := beq_self_eq_true _
  show List.lookup ("_numbers" : Str) [(("_numbers" : Str), V.ref l)] = _
  rw [List.lookup_cons, hb]
/-- boxes at b whose numbers, xs, stand in the list at l -/
def BoxAt (C : Addr) (H : Hp) (b l : Addr) (xs : List Int) : Prop := (∃ dx, H b = some (.ins C dx (fs1 l))) ∧ H l = some (.lst (xs.map V.int))
theorem BoxAt.same {C b l : Addr} {H H' : Hp} {xs : List Int} (h : BoxAt C H b l xs) (s : Same H H') : BoxAt C H' b l xs := by
  obtain ⟨⟨dx, h1⟩, h2⟩ := h
  exact ⟨⟨dx, s _ _ h1⟩, s _ _ h2⟩
theorem BoxAt.but {C b l d : Addr} {H H' : Hp} {xs : List Int} (h : BoxAt C H b l xs) (s : Sd.But d H H') (n1 : b ≠ d) (n2 : l ≠ d) : BoxAt C H' b l xs := by
  obtain ⟨⟨dx, h1⟩, h2⟩ := h
  exact ⟨⟨dx, s _ _ n1 h1⟩, s _ _ n2 h2⟩
abbrev In (i : Int) (xs : List Int) : Prop := 0 ≤ i ∧ i < (xs.length : Int)
def spInit (C : Addr) : Sp := fun vs H Q _ => ∃ (p dx : Addr) (n : Int), vs = [.ref p, .int n] ∧ 0 ≤ n ∧ n ≤ 100000 ∧ H p = some (.ins C dx []) ∧
  ∀ (l : Addr) (H' : Hp), H l = none → Sd.But p H H' → BoxAt C H' p l (List.replicate n.toNat 0) → Q .non H'
def spNeed (C NB : Addr) : Sp := fun vs H Q E => ∃ (b l : Addr) (xs : List Int) (i : Int), vs = [.ref b, .int i] ∧ BoxAt C H b l xs ∧ (In i xs → Q .non H) ∧ (¬ In i xs → E (.ref NB) none H)
def spTake (C NB : Addr) : Sp := fun vs H Q E => ∃ (b l : Addr) (xs : List Int) (i : Int), vs = [.ref b, .int i] ∧ BoxAt C H b l xs ∧ (∀ (j : Nat) (v : Int), i = (j : Int) → xs[j]? = some v → Q (.int v) H) ∧ (¬ In i xs → E (.ref NB) none H)
def spPut (C NB : Addr) : Sp := fun vs H Q E => ∃ (b l : Addr) (xs : List Int) (i n : Int), vs = [.ref b, .int i, .int n] ∧ BoxAt C H b l xs ∧
  (∀ (j : Nat) (H' : Hp), i = (j : Int) → j < xs.length → BoxAt C H' b l (xs.set j n) → Sd.But l H H' → Q .non H') ∧ (¬ In i xs → E (.ref NB) none H)
def spRefused (C : Addr) : Sp := fun vs H Q _ => ∃ (b l : Addr) (xs : List Int) (i way : Int), vs = [.ref b, .int i, .int way] ∧ BoxAt C H b l xs ∧ ¬ In i xs ∧ ∀ H', Same H H' → Q (.bl true) H'
def spTaken (C : Addr) : Sp := fun vs H Q _ => ∃ (b l r : Addr) (xs : List Int), vs = [.ref b, .ref r] ∧ BoxAt C H b l xs ∧ H r = some (.lst (xs.map V.int)) ∧ xs.length ≤ 1000 ∧ Q (.bl true) H
def spLaw (K : PySem.W.Frag) : Sp := fun vs H Q _ => ∃ (a : Addr) (ns : List Int), vs = [.ref a] ∧ SqL K H a (ns.map V.int) ∧ ns.length ≤ 63 ∧ ∀ H', Q (.bl true) H'
/-! a cell of the script -/
section
variable {P : Program} {w : World} {K : PySem.W.Frag} {mg : Str → Option Value} {base : Heap}
abbrev N_l_cell : List Str := ["_law_script", "_law_k"]
theorem sc_l_cell : FnScope N_l_cell ["_law_script", "_law_k"] (defScope s_l_cell) := ⟨rfl, rfl, rfl, by decide +kernel, rfl, by decide +kernel, by decide +kernel⟩
theorem ok_l_cell {f : Addr} {fd : FuncData} (F : Fun K "_law_cell" "_law_cell" s_l_cell f fd) (T : Dr K mg) : FnOk P w K mg base CX0 1 f fd ["_law_script", "_law_k"] (Sd.spCell K) := by
  refine F.ok sc_l_cell (fun vs H Q E h => ?_) (fun cdv A outer s H vs Q E hr h => ?_)
  · obtain ⟨a, ns, k, rfl, _⟩ := h
    rfl
  · obtain ⟨a, ns, k, rfl, h0, hS, q⟩ := h
    refine ⟨_, (pss_cons (ps_if (pt_cmpR op_lt (pv 1) (pe_callB call_len_seq (by rfl) T.len (by decide +kernel) (pa_cons (pv 0) pa_nil)) (nomark _))
      (pss_one (ps_ret (pe_ix ix_list (pv 0) (pv 1) (fun _ _ => rfl))))
      pss_nil)
      (pss_one (ps_ret pe_int))), ?_⟩
    obtain ⟨m, rfl⟩ := Int.eq_ofNat_of_zero_le h0
    refine ⟨_, rfl, _, rfl, a, _, rfl, .inl hS, _, _, rfl, rfl, _, rfl, ?_⟩
    refine ite2 (fun c => ?_) (fun c => ?_)
    · have hm : m < ns.length := by
        have c' := of_decide_eq_true c
        rw [List.length_map] at c'
        omega
      exact ⟨_, rfl, _, rfl, a, _, _, _, rfl, rfl, hS, atI_nat (Sd.ints_get (List.getElem?_eq_getElem hm)), q _⟩
    · exact q 0
end
/-! the defs of the draws -/
section
variable {P : Program} {w : World} {K : PySem.W.Frag} {mg : Str → Option Value} {base : Heap}
abbrev N_l_dice : List Str := ["_law_script", "_law_k", "_law_cell_here"]
theorem sc_l_dice : FnScope N_l_dice ["_law_script", "_law_k"] (defScope s_l_dice) := ⟨rfl, rfl, rfl, by decide +kernel, rfl, by decide +kernel, by decide +kernel⟩
theorem ok_l_dice {f : Addr} {fd : FuncData} (F : Fun K "_law_dice" "_law_dice" s_l_dice f fd) (T : Dr K mg) (C_l_cell : Sd.Cal P w K mg base CX0 1 "_law_cell" ["_law_script", "_law_k"] (Sd.spCell K)) :
    FnOk P w K mg base CX0 2 f fd ["_law_script", "_law_k"] (Sd.spDice K) := by
  refine F.ok sc_l_dice (fun vs H Q E h => ?_) (fun cdv A outer s H vs Q E hr h => ?_)
  · obtain ⟨a, ns, k, rfl, _⟩ := h
    rfl
  · obtain ⟨a, ns, k, rfl, h0, hS, q⟩ := h
    refine ⟨_, (pss_cons (ps_set (i := 2) sc_l_dice.nd rfl (Or.inl rfl) (pe_callB call_abs (by rfl) T.abs (by decide +kernel) (pa_cons (Sd.pe_fn C_l_cell (hr.mono (by decide)) pass0 (pa_cons (pv 0) (pa_cons (pv 1) pa_nil))) pa_nil)))
      (pss_one (ps_ret (pe_lst (pa_cons (pe_op op_mod (pv 2) pe_int) (pa_cons (pv 0) (pa_cons (pe_op op_add (pv 1) pe_int) (pa_cons (pe_op op_mul (pe_callTy call_int1 (by rfl) T.int (by decide +kernel) (pa_cons (pe_cmpR op_ge (pv 2) (pe_op op_pow pe_int pe_int) (nomark _)) pa_nil)) (pv 2)) pa_nil)))))))), ?_⟩
    refine ⟨_, rfl, _, rfl, a, ns, k, rfl, h0, hS, fun v => ⟨v, rfl, ?_⟩⟩
    refine ⟨_, rfl, _, _, rfl, rfl, (by show (0 : Int) < 2147483647; decide), _, rfl, _, rfl, _, _, rfl, rfl, ?_⟩
    refine ⟨_, rfl, _, _, rfl, rfl, ⟨by decide, by decide, by decide⟩, _, _, rfl, rfl, .inr ⟨_, rfl, ?_⟩⟩
    refine ⟨_, rfl, _, _, rfl, rfl, .inl ?_, (by show 4 ≤ sizeLine; decide), fun p hp => ?_⟩
    · exact Sd.b01 _
    · exact q p _ hp (Sd.Same.new hp) Sd.But.upd ⟨_, _, _, upd_same⟩ fun b n => upd_ne n
abbrev N_l_off : List Str := ["_law_d", "_law_most", "_law_found", "_law_more"]
theorem sc_l_off : FnScope N_l_off ["_law_d", "_law_most"] (defScope s_l_off) := ⟨rfl, rfl, rfl, by decide +kernel, rfl, by decide +kernel, by decide +kernel⟩
theorem ok_l_off {f : Addr} {fd : FuncData} (F : Fun K "_law_off" "_law_off" s_l_off f fd) (T : Dr K mg) (C_l_cell : Sd.Cal P w K mg base CX0 1 "_law_cell" ["_law_script", "_law_k"] (Sd.spCell K)) :
    FnOk P w K mg base CX0 2 f fd ["_law_d", "_law_most"] (Sd.spOff K) := by
  refine F.ok sc_l_off (fun vs H Q E h => ?_) (fun cdv A outer s H vs Q E hr h => ?_)
  · obtain ⟨d, a, ns, m, rfl, _⟩ := h
    rfl
  · obtain ⟨d, a, ns, m, rfl, ⟨n, k, g, hd⟩, hS, hm0, hm1, q⟩ := h
    refine ⟨_, (pss_cons (ps_if (pt_cmpR op_gt (pe_ix ix_list (pv 0) pe_int (fun _ _ => rfl)) pe_int (nomark _))
      (pss_cons (ps_set (i := 2) sc_l_off.nd rfl (Or.inl rfl) (pe_op op_mod (pe_ix ix_list (pv 0) pe_int (fun _ _ => rfl)) (pv 1)))
      (pss_cons (ps_asg (pe_op op_fdiv (pe_ix ix_list (pv 0) pe_int (fun _ _ => rfl)) (pv 1)) (pg_sub (pv 0) pe_int set_list))
      (pss_one (ps_ret (pv 2)))))
      pss_nil)
      (pss_cons (ps_set (i := 3) sc_l_off.nd rfl (Or.inl rfl) (pe_callB call_abs (by rfl) T.abs (by decide +kernel) (pa_cons (Sd.pe_fn C_l_cell (hr.mono (by decide)) pass0 (pa_cons (pe_ix ix_list (pv 0) pe_int (fun _ _ => rfl)) (pa_cons (pe_op op_mod (pe_ix ix_list (pv 0) pe_int (fun _ _ => rfl)) (pe_callB (call_max2 rfl) (by rfl) T.max (by decide +kernel) (pa_cons pe_int (pa_cons (pe_callB call_len_seq (by rfl) T.len (by decide +kernel) (pa_cons (pe_ix ix_list (pv 0) pe_int (fun _ _ => rfl)) pa_nil)) pa_nil)))) pa_nil))) pa_nil)))
      (pss_cons (ps_asg (pe_op op_add (pe_ix ix_list (pv 0) pe_int (fun _ _ => rfl)) pe_int) (pg_sub (pv 0) pe_int set_list))
      (pss_cons (ps_asg (pe_op op_mod (pe_op op_add (pe_op op_add (pe_op op_mul (pe_ix ix_list (pv 0) pe_int (fun _ _ => rfl)) pe_int) pe_int) (pv 3)) pe_int) (pg_sub (pv 0) pe_int set_list))
      (pss_one (ps_ret (pe_op op_mod (pe_op op_fdiv (pe_ix ix_list (pv 0) pe_int (fun _ _ => rfl)) pe_int) (pv 1)))))))), ?_⟩
    have at0 : ∀ x y z t : V, atI [x, y, z, t] (0 : Int) = some x := fun _ _ _ _ => atI_nat (j := 0) rfl
    have at1 : ∀ x y z t : V, atI [x, y, z, t] (1 : Int) = some y := fun _ _ _ _ => atI_nat (j := 1) rfl
    have at2 : ∀ x y z t : V, atI [x, y, z, t] (2 : Int) = some z := fun _ _ _ _ => atI_nat (j := 2) rfl
    have at3 : ∀ x y z t : V, atI [x, y, z, t] (3 : Int) = some t := fun _ _ _ _ => atI_nat (j := 3) rfl
    refine ⟨_, rfl, d, _, _, _, rfl, rfl, SqL.of hd, at3 _ _ _ _, _, _, rfl, rfl, _, rfl, ?_⟩
    refine ite2 (fun c => ?_) (fun c => ?_)
    · refine ⟨_, rfl, d, _, _, _, rfl, rfl, SqL.of hd, at3 _ _ _ _, _, rfl, _, _, rfl, rfl, hm0, ?_⟩
      refine ⟨_, rfl, d, _, _, _, rfl, rfl, SqL.of hd, at3 _ _ _ _, _, rfl, _, _, rfl, rfl, ⟨hm0, hm1⟩, _, rfl, d, _, _, 3, rfl, rfl, hd, rfl, ?_⟩
      exact ⟨_, rfl, q _ _ (Int.emod_nonneg _ (by omega)) (Int.emod_lt_of_pos _ hm0) ⟨n, k, _, upd_same⟩ fun b e => upd_ne e⟩
    · refine ⟨_, rfl, d, _, _, _, rfl, rfl, SqL.of hd, at1 _ _ _ _, _, rfl, d, _, _, _, rfl, rfl, SqL.of hd, at2 _ _ _ _, ?_⟩
      refine ⟨_, rfl, d, _, _, _, rfl, rfl, SqL.of hd, at1 _ _ _ _, a, _, rfl, .inl hS, _, _, rfl, ?_⟩
      have hM : (0 : Int) < (if (((ns.map V.int).length : Nat) : Int) > 1 then (((ns.map V.int).length : Nat) : Int) else 1) := by
        split <;> omega
      refine ⟨_, _, rfl, rfl, hM, ?_⟩
      refine ⟨a, ns, _, rfl, Int.emod_nonneg _ (by omega), hS, fun v => ⟨v, rfl, ?_⟩⟩
      refine ⟨_, rfl, d, _, _, _, rfl, rfl, SqL.of hd, at2 _ _ _ _, _, _, rfl, rfl, _, rfl, d, _, _, 2, rfl, rfl, hd, rfl, ?_⟩
      refine ⟨_, rfl, d, _, _, _, rfl, rfl, SqL.of upd_same, at0 _ _ _ _, _, _, rfl, rfl, .inr ⟨by decide, by decide⟩, _, _, rfl, rfl, ?_⟩
      refine ⟨_, rfl, _, _, rfl, rfl, _, _, rfl, rfl, (by show (0 : Int) < 2147483647; decide), _, rfl, d, _, _, 0, rfl, rfl, upd_same, rfl, ?_⟩
      refine ⟨_, rfl, d, _, _, _, rfl, rfl, SqL.of upd_same, at0 _ _ _ _, _, _, rfl, rfl, ⟨by decide, by decide⟩, _, rfl, _, _, rfl, rfl, hm0, ?_⟩
      exact q _ _ (Int.emod_nonneg _ (by omega)) (Int.emod_lt_of_pos _ hm0) ⟨_, _, _, upd_same⟩ fun b e => by rw [upd_ne e, upd_ne e]
end

section
variable {P : Program} {w : World} {K : PySem.W.Frag} {mg : Str → Option Value} {base : Heap} {A_Boxes A_HandsError A_NoNumber A_NoBox A_NoHand A_NoDeed : Addr}
abbrev N_Boxes__init_ : List Str := ["self", "many"]
theorem sc_Boxes__init_ : FnScope N_Boxes__init_ ["self", "many"] (defScope s_Boxes__init_) := ⟨rfl, rfl, rfl, by decide +kernel, rfl, by decide +kernel, by decide +kernel⟩
theorem ok_Boxes__init_ {f : Addr} {fd : FuncData} (F : Fun K "__init__" "Boxes.__init__" s_Boxes__init_ f fd) (T : Txt K mg A_Boxes A_HandsError A_NoNumber A_NoBox A_NoHand A_NoDeed) : FnOk P w K mg base CX0 1 f fd ["self", "many"] (spInit A_Boxes) := by
  refine F.ok sc_Boxes__init_ (fun vs H Q E h => ?_) (fun cdv A outer s H vs Q E hr h => ?_)
  · obtain ⟨p, dx, n, rfl, _⟩ := h
    rfl
  · obtain ⟨p, dx, n, rfl, h0, h1, hp, q⟩ := h
    refine ⟨_, (pss_one (ps_fld (pv 0) (pe_op op_rep (pe_lst (pa_cons pe_int pa_nil)) (pv 1)) rfl)), ?_⟩
    refine ⟨(by show 1 ≤ sizeLine; decide), fun l0 hl0 => ⟨_, rfl, l0, _, _, rfl, rfl, upd_same, by omega, by omega, ?_, fun l hl => ?_⟩⟩
    · have := Sd.size1 h0 h1
      exact this
    have n0 : p ≠ l0 := ne_of_none hp hl0
    have hpl : upd H l0 (.lst [.int 0]) p = some (.ins A_Boxes dx []) := by rw [upd_ne n0]; exact hp
    have nl : p ≠ l := ne_of_none hpl hl
    have hl2 : H l = none := by
      have n2 : l ≠ l0 := fun z => by
        rw [z, upd_same] at hl
        cases hl
      rw [upd_ne n2] at hl
      exact hl
    refine ⟨_, rfl, p, A_Boxes, dx, [], rfl, (by rw [upd_ne nl]; exact hpl), T.cl_Boxes, T.n_Boxes__numbers, (by show 0 < 1000; decide), ?_⟩
    refine q l _ hl2 (fun b o n e => ?_) ⟨⟨dx, upd_same⟩, ?_⟩
    · rw [upd_ne n, upd_ne (ne_of_none e hl2), upd_ne (ne_of_none e hl0)]
      exact e
    · rw [upd_ne nl.symm, upd_same, ← Sd.rep_flat]
abbrev N_Boxes_need : List Str := ["self", "place"]
theorem sc_Boxes_need : FnScope N_Boxes_need ["self", "place"] (defScope s_Boxes_need) := ⟨rfl, rfl, rfl, by decide +kernel, rfl, by decide +kernel, by decide +kernel⟩
theorem ok_Boxes_need {f : Addr} {fd : FuncData} (F : Fun K "_need" "Boxes._need" s_Boxes_need f fd) (T : Txt K mg A_Boxes A_HandsError A_NoNumber A_NoBox A_NoHand A_NoDeed) : FnOk P w K mg base (L2.CX P w) 1 f fd ["self", "place"] (spNeed A_Boxes A_NoBox) := by
  refine F.okX sc_Boxes_need (fun vs H Q E h => ?_) (fun cdv A outer s H vs Q E hr h => ?_)
  · obtain ⟨b, l, xs, i, rfl, _⟩ := h
    rfl
  · obtain ⟨b, l, xs, i, rfl, ⟨⟨dx, hb⟩, hL⟩, q, qx⟩ := h
    refine ⟨_, (pss_one (ps_if (PW.pt (pw_or (pt_cmpR op_lt (pv 1) pe_int (nomark _)) (pw_or1 (pt_cmpR op_ge (pv 1) (pe_callB call_len_seq (by rfl) T.len (by decide +kernel) (pa_cons (pe_fld (pv 0) rfl) pa_nil)) (nomark _)))))
      (pss_one (ps_raise rfl (takes_of rfl rfl rfl rfl) (pmk_own PySem.F.excBase_ValueError T.r_NoBox.ex T.m_NoBox T.r_NoBox.kp (raises_own T.r_NoBox.b T.r_NoBox.t) rfl)))
      pss_nil)), ?_⟩
    refine ⟨_, rfl, _, _, rfl, rfl, _, rfl, ?_⟩
    refine ite2 (fun c => ?_) (fun c1 => ?_)
    · refine qx fun h => ?_
      have c' := of_decide_eq_true c
      omega
    refine ⟨_, rfl, _, rfl, b, A_Boxes, dx, _, _, rfl, hb, T.cl_Boxes, T.n_Boxes__numbers, fs1_at l, l, _, rfl, .inl (SqL.of hL), _, _, rfl, rfl, _, rfl, ?_⟩
    have d1 : ¬ (i < 0) := fun z => c1 (decide_eq_true z)
    refine ite2 (fun c => ?_) (fun c2 => ?_)
    · refine qx fun h => ?_
      have c' := of_decide_eq_true c
      rw [List.length_map] at c'
      omega
    · have d2 : ¬ (((xs.map V.int).length : Int) ≤ i) := fun z => c2 (decide_eq_true z)
      rw [List.length_map] at d2
      exact q ⟨by omega, by omega⟩
abbrev N_Boxes_take : List Str := ["self", "place"]
theorem sc_Boxes_take : FnScope N_Boxes_take ["self", "place"] (defScope s_Boxes_take) := ⟨rfl, rfl, rfl, by decide +kernel, rfl, by decide +kernel, by decide +kernel⟩
theorem ok_Boxes_take {f : Addr} {fd : FuncData} (F : Fun K "take" "Boxes.take" s_Boxes_take f fd) (T : Txt K mg A_Boxes A_HandsError A_NoNumber A_NoBox A_NoHand A_NoDeed)
    (C_Boxes_need : Sd.CalM P w K mg base (L2.CX P w) 1 A_Boxes "_need" ["self", "place"] (spNeed A_Boxes A_NoBox)) : FnOk P w K mg base (L2.CX P w) 2 f fd ["self", "place"] (spTake A_Boxes A_NoBox) := by
  refine F.okX sc_Boxes_take (fun vs H Q E h => ?_) (fun cdv A outer s H vs Q E hr h => ?_)
  · obtain ⟨b, l, xs, i, rfl, _⟩ := h
    rfl
  · obtain ⟨b, l, xs, i, rfl, hB, q, qx⟩ := h
    refine ⟨_, (pss_cons (ps_expr (Sd.pe_mt C_Boxes_need (hr.mono (by decide)) (passes_call (takes_of rfl rfl rfl rfl) (fun _ _ _ _ h => h)) (pv 0) (pa_cons (pv 1) pa_nil)))
      (pss_one (ps_ret (pe_ix ix_list (pe_fld (pv 0) rfl) (pv 1) (fun _ _ => rfl))))), ?_⟩
    obtain ⟨⟨dx, hb⟩, hL⟩ := id hB
    refine ⟨_, rfl, b, dx, _, rfl, hb, fs1_no l (by decide +kernel), _, rfl, b, l, xs, i, rfl, hB, fun h => ?_, fun h => qx h⟩
    obtain ⟨j, rfl⟩ := Int.eq_ofNat_of_zero_le h.1
    have hj : j < xs.length := by omega
    exact ⟨_, rfl, b, A_Boxes, dx, _, _, rfl, hb, T.cl_Boxes, T.n_Boxes__numbers, fs1_at l, _, rfl, l, _, _, _, rfl, rfl, SqL.of hL, atI_nat (Sd.ints_get (List.getElem?_eq_getElem hj)), q j _ rfl (List.getElem?_eq_getElem hj)⟩
abbrev N_Boxes_put : List Str := ["self", "place", "number"]
theorem sc_Boxes_put : FnScope N_Boxes_put ["self", "place", "number"] (defScope s_Boxes_put) := ⟨rfl, rfl, rfl, by decide +kernel, rfl, by decide +kernel, by decide +kernel⟩
theorem ok_Boxes_put {f : Addr} {fd : FuncData} (F : Fun K "put" "Boxes.put" s_Boxes_put f fd) (T : Txt K mg A_Boxes A_HandsError A_NoNumber A_NoBox A_NoHand A_NoDeed)
    (C_Boxes_need : Sd.CalM P w K mg base (L2.CX P w) 1 A_Boxes "_need" ["self", "place"] (spNeed A_Boxes A_NoBox)) : FnOk P w K mg base (L2.CX P w) 2 f fd ["self", "place", "number"] (spPut A_Boxes A_NoBox) := by
  refine F.okX sc_Boxes_put (fun vs H Q E h => ?_) (fun cdv A outer s H vs Q E hr h => ?_)
  · obtain ⟨b, l, xs, i, n, rfl, _⟩ := h
    rfl
  · obtain ⟨b, l, xs, i, n, rfl, hB, q, qx⟩ := h
    refine ⟨_, (pss_cons (ps_expr (Sd.pe_mt C_Boxes_need (hr.mono (by decide)) (passes_call (takes_of rfl rfl rfl rfl) (fun _ _ _ _ h => h)) (pv 0) (pa_cons (pv 1) pa_nil)))
      (pss_one (ps_asg (pv 2) (pg_sub (pe_fld (pv 0) rfl) (pv 1) set_list)))), ?_⟩
    obtain ⟨⟨dx, hb⟩, hL⟩ := id hB
    refine ⟨_, rfl, b, dx, _, rfl, hb, fs1_no l (by decide +kernel), _, rfl, b, l, xs, i, rfl, hB, fun h => ?_, fun h => qx h⟩
    obtain ⟨j, rfl⟩ := Int.eq_ofNat_of_zero_le h.1
    have hj : j < xs.length := by omega
    have nbl : b ≠ l := ne_of hb hL (by intro z; cases z)
    refine ⟨_, rfl, _, rfl, b, A_Boxes, dx, _, _, rfl, hb, T.cl_Boxes, T.n_Boxes__numbers, fs1_at l, _, rfl, l, _, _, j, rfl, rfl, hL, ?_, ?_⟩
    · rw [List.length_map]
      exact Sd.ixN_nat hj
    · refine q j _ rfl hj ⟨⟨dx, by rw [upd_ne nbl]; exact hb⟩, ?_⟩ Sd.But.upd
      rw [upd_same, List.map_set]
abbrev N_l_refused : List Str := ["_law_boxes", "_law_place", "_law_way", "e"]
theorem sc_l_refused : FnScope N_l_refused ["_law_boxes", "_law_place", "_law_way"] (defScope s_l_refused) := ⟨rfl, rfl, rfl, by decide +kernel, rfl, by decide +kernel, by decide +kernel⟩
theorem ok_l_refused {f : Addr} {fd : FuncData} (F : Fun K "_law_refused" "_law_refused" s_l_refused f fd) (T : Txt K mg A_Boxes A_HandsError A_NoNumber A_NoBox A_NoHand A_NoDeed)
    (C_Boxes_take : Sd.CalM P w K mg base (L2.CX P w) 2 A_Boxes "take" ["self", "place"] (spTake A_Boxes A_NoBox)) (C_Boxes_put : Sd.CalM P w K mg base (L2.CX P w) 2 A_Boxes "put" ["self", "place", "number"] (spPut A_Boxes A_NoBox)) :
    FnOk P w K mg base CX0 3 f fd ["_law_boxes", "_law_place", "_law_way"] (spRefused A_Boxes) := by
  refine F.ok sc_l_refused (fun vs H Q E h => ?_) (fun cdv A outer s H vs Q E hr h => ?_)
  · obtain ⟨b, l, xs, i, way, rfl, _⟩ := h
    rfl
  · obtain ⟨b, l, xs, i, way, rfl, hB, hbad, q⟩ := h
    refine ⟨_, (pss_cons (ps_try_as (i := 3) (Wout := fun _ _ _ _ => False) rfl rfl sc_l_refused.nd rfl rfl ⟨rfl, by decide, .inl T.m_HandsError⟩ takes0 (fun W pn xe tk _ => (pss_one (ps_if (pt_cmpR op_eq (pv 2) pe_int (nomark _))
      (pss_one (ps_expr (Sd.pe_mtS C_Boxes_take (hr.mono (by decide)) (fun σ => passAt tk σ) (pv 0) (pa_cons (pv 1) pa_nil))))
      (pss_one (ps_expr (Sd.pe_mtS C_Boxes_put (hr.mono (by decide)) (fun σ => passAt tk σ) (pv 0) (pa_cons (pv 1) (pa_cons pe_int pa_nil))))))))
      (fun a oe cls d pn hz hf => (pss_one (ps_ret (pe_and (pe_callB (Sd.call_isX hz hf) (by rfl) T.isinstance (by decide +kernel) (pa_cons (pv 3) (pa_cons (pe_glob (v := .ref A_NoBox) rfl T.m_NoBox rfl) pa_nil))) (pe_and (pe_callB (Sd.call_isX hz hf) (by rfl) T.isinstance (by decide +kernel) (pa_cons (pv 3) (pa_cons (pe_bltn (v := .ty "ValueError") (u := .type "ValueError") (by rfl) T.ValueError (by decide +kernel) rfl) pa_nil))) (pe_one (pe_not (pe_callB (Sd.call_isXT hz hf) (by rfl) T.isinstance (by decide +kernel) (pa_cons (pv 3) (pa_cons (pe_tup (pa_cons (pe_glob (v := .ref A_NoNumber) rfl T.m_NoNumber rfl) (pa_cons (pe_glob (v := .ref A_NoDeed) rfl T.m_NoDeed rfl) (pa_cons (pe_glob (v := .ref A_NoHand) rfl T.m_NoHand rfl) pa_nil)))) pa_nil)))))))))))
      (pss_one (ps_ret pe_bl))), ?_⟩
    obtain ⟨⟨dx, hb⟩, hL⟩ := id hB
    have bad : ∀ (j : Nat) (v : Int), i = (j : Int) → xs[j]? = some v → False := fun j v e hj => hbad ⟨by omega, by have := (List.getElem?_eq_some_iff.mp hj).1; omega⟩
    refine ⟨_, rfl, rfl, _, rfl, ?_⟩
    refine ite2 (fun _ => ?_) (fun _ => ?_)
    · refine ⟨_, rfl, b, dx, _, rfl, hb, fs1_no l (by decide +kernel), _, rfl, b, l, xs, i, rfl, hB, fun j v e hj => (bad j v e hj).elim, fun _ => ?_⟩
      refine ⟨true, T.r_NoBox.caught, fun _ e he => ?_, fun z => nomatch z⟩
      refine ⟨_, rfl, _, _, _, true, rfl, rfl, rfl, T.r_NoBox.ec, .own _, T.r_NoBox.me, true, rfl, ?_⟩
      refine ⟨_, rfl, _, _, _, true, rfl, rfl, rfl, T.r_NoBox.ec, .ty _, T.r_NoBox.ve, true, rfl, ?_⟩
      refine ⟨_, rfl, (by show 3 ≤ sizeLine; decide), fun tp htp => ?_⟩
      exact ⟨_, tp, _, _, false, rfl, rfl, rfl, T.r_NoBox.ec, upd_same, Sd.clsAll [A_NoNumber, A_NoDeed, A_NoHand], Sd.Ref.none (S := A_HandsError) T.r_NoBox.no, false, rfl, q _ (Sd.Same.new htp)⟩
    · refine ⟨_, rfl, b, dx, _, rfl, hb, fs1_no l (by decide +kernel), _, rfl, b, l, xs, i, _, rfl, hB, fun j H' e hj _ _ => (bad j _ e (List.getElem?_eq_getElem hj)).elim, fun _ => ?_⟩
      refine ⟨true, T.r_NoBox.caught, fun _ e he => ?_, fun z => nomatch z⟩
      refine ⟨_, rfl, _, _, _, true, rfl, rfl, rfl, T.r_NoBox.ec, .own _, T.r_NoBox.me, true, rfl, ?_⟩
      refine ⟨_, rfl, _, _, _, true, rfl, rfl, rfl, T.r_NoBox.ec, .ty _, T.r_NoBox.ve, true, rfl, ?_⟩
      refine ⟨_, rfl, (by show 3 ≤ sizeLine; decide), fun tp htp => ?_⟩
      exact ⟨_, tp, _, _, false, rfl, rfl, rfl, T.r_NoBox.ec, upd_same, Sd.clsAll [A_NoNumber, A_NoDeed, A_NoHand], Sd.Ref.none (S := A_HandsError) T.r_NoBox.no, false, rfl, q _ (Sd.Same.new htp)⟩
abbrev N_l_taken : List Str := ["_law_boxes", "_law_row", "_law_place", "_law_found"]
theorem sc_l_taken : FnScope N_l_taken ["_law_boxes", "_law_row"] (defScope s_l_taken) := ⟨rfl, rfl, rfl, by decide +kernel, rfl, by decide +kernel, by decide +kernel⟩
theorem ok_l_taken {f : Addr} {fd : FuncData} (F : Fun K "_law_taken" "_law_taken" s_l_taken f fd) (T : Txt K mg A_Boxes A_HandsError A_NoNumber A_NoBox A_NoHand A_NoDeed)
    (C_Boxes_take : Sd.CalM P w K mg base (L2.CX P w) 2 A_Boxes "take" ["self", "place"] (spTake A_Boxes A_NoBox)) : FnOk P w K mg base CX0 3 f fd ["_law_boxes", "_law_row"] (spTaken A_Boxes) := by
  refine F.ok sc_l_taken (fun vs H Q E h => ?_) (fun cdv A outer s H vs Q E hr h => ?_)
  · obtain ⟨b, l, r, xs, rfl, _⟩ := h
    rfl
  · obtain ⟨b, l, r, xs, rfl, hB, hR, hlen, q⟩ := h
    refine ⟨_, (pss_cons (ps_for PassesOwn.never rfl (pi_range1 rfl T.range (pa_cons (pe_callB call_len_seq (by rfl) T.len (by decide +kernel) (pa_cons (pv 1) pa_nil)) pa_nil)) (pg_name (i := 2) sc_l_taken.nd rfl (Or.inl rfl))
      (pss_cons (ps_set (i := 3) sc_l_taken.nd rfl (Or.inl rfl) (Sd.pe_mt C_Boxes_take (hr.mono (by decide)) passL (pv 0) (pa_cons (pv 2) pa_nil)))
      (pss_one (ps_if (PW.pt (pw_or (pt_val (pe_callB call_isi (by rfl) T.isinstance (by decide +kernel) (pa_cons (pv 3) (pa_cons (pe_bltn (v := .ty "bool") (u := .type "bool") (by rfl) T.bool (by decide +kernel) rfl) pa_nil)))) (pw_or (pt_not (pt_val (pe_callB call_isi (by rfl) T.isinstance (by decide +kernel) (pa_cons (pv 3) (pa_cons (pe_bltn (v := .ty "int") (u := .type "int") (by rfl) T.int (by decide +kernel) rfl) pa_nil))))) (pw_or1 (pt_cmpR op_ne (pv 3) (pe_ix ix_list (pv 1) (pv 2) (fun _ _ => rfl)) (nomark _))))))
      (pss_one (ps_ret pe_bl))
      pss_nil))))
      (pss_one (ps_ret pe_bl))), ?_⟩
    obtain ⟨⟨dx, hb⟩, hL⟩ := id hB
    have hn : ((xs.map V.int).length : Int) = (xs.length : Int) := by rw [List.length_map]
    refine ⟨_, rfl, r, _, rfl, .inl (SqL.of hR), _, rfl, by omega, by omega, ?_⟩
    refine for_range (lo := 0) (n := ((xs.map V.int).length : Int).toNat) (fun i σ H' => H' = H ∧ ∃ v2 v3, σ = [some (.ref b), some (.ref r), v2, v3]) ⟨rfl, none, none, rfl⟩ ?_ ?_
    · rintro i σ H' hi ⟨rfl, v2, v3, rfl⟩
      have hi2 : i < xs.length := by omega
      refine ⟨_, rfl, b, dx, _, rfl, hb, fs1_no l (by decide +kernel), _, rfl, b, l, xs, _, rfl, hB, fun j v e hj => ?_, fun h => (h ⟨by omega, by omega⟩).elim⟩
      refine ⟨_, rfl, _, _, _, _, false, rfl, .ty _, Sd.ty_int, kit_ty (by decide +kernel), false, rfl, ?_⟩
      refine ⟨_, rfl, _, _, _, _, true, rfl, .ty _, Sd.ty_int, kit_ty (by decide +kernel), true, rfl, ?_⟩
      refine ⟨_, rfl, _, rfl, _, rfl, r, _, _, _, rfl, rfl, SqL.of hR, at_of e (Sd.ints_get hj), rfl, _, rfl, iteNS rfl ?_⟩
      exact ⟨rfl, _, _, rfl⟩
    · rintro σ H' ⟨rfl, v2, v3, rfl⟩
      exact q
/-- how all stands between two deeds -/
structure J (K : PySem.W.Frag) (C a d b l o lo r : Addr) (ns : List Int) (many : Int) (H : Hp) (xs : List Int) : Prop where
  D : Sd.Dice H d a
  S : SqL K H a (ns.map V.int)
  B : BoxAt C H b l xs
  O : BoxAt C H o lo [0, 0, 0]
  R : H r = some (.lst (xs.map V.int))
  len : (xs.length : Int) = many
section
variable {K : PySem.W.Frag} {C a d b l o lo r : Addr} {ns : List Int} {many : Int} {H H' : Hp} {xs : List Int}
theorem J.draw (j : J K C a d b l o lo r ns many H xs) (D : Sd.Dice H' d a) (s : ∀ c, c ≠ d → H' c = H c) : J K C a d b l o lo r ns many H' xs := by
  have bt : Sd.But d H H' := fun c u n e => by rw [s c n]; exact e
  obtain ⟨_, _, _, hd⟩ := id j.D
  obtain ⟨⟨dx, hb⟩, hl⟩ := id j.B
  obtain ⟨⟨dy, ho⟩, hlo⟩ := id j.O
  exact ⟨D, j.D.seq bt j.S, j.B.but bt (ne_of hb hd (by intro z; cases z)) (j.D.ne_ints hl), j.O.but bt (ne_of ho hd (by intro z; cases z)) (j.D.ne_ints hlo), bt _ _ (j.D.ne_ints j.R) j.R, j.len⟩
theorem J.same (j : J K C a d b l o lo r ns many H xs) (s : Same H H') : J K C a d b l o lo r ns many H' xs :=
  ⟨j.D.same s, s.seq j.S, j.B.same s, j.O.same s, s _ _ j.R, j.len⟩
end
theorem at3 (w : Int) (h0 : 0 ≤ w) (h1 : w < 3) (x y : Int) : ∃ z, atI [V.int x, V.int y, V.int 0] w = some (V.int z) := by
  have h : w = 0 ∨ w = 1 ∨ w = 2 := by omega
  rcases h with rfl | rfl | rfl
  · exact ⟨x, atI_nat (j := 0) rfl⟩
  · exact ⟨y, atI_nat (j := 1) rfl⟩
  · exact ⟨0, atI_nat (j := 2) rfl⟩
theorem at4 (w : Int) (h0 : 0 ≤ w) (h1 : w < 4) (many place : Int) (hm : 0 ≤ many) (hp : 0 ≤ place) :
    ∃ z, atI [V.int (-1), V.int many, V.int (many + place + 5), V.int (-2 - place)] w = some (V.int z) ∧ ¬ (0 ≤ z ∧ z < many) := by
  have h : w = 0 ∨ w = 1 ∨ w = 2 ∨ w = 3 := by omega
  rcases h with rfl | rfl | rfl | rfl
  · exact ⟨-1, atI_nat (j := 0) rfl, by omega⟩
  · exact ⟨many, atI_nat (j := 1) rfl, by omega⟩
  · exact ⟨many + place + 5, atI_nat (j := 2) rfl, by omega⟩
  · exact ⟨-2 - place, atI_nat (j := 3) rfl, by omega⟩
abbrev N_law : List Str := ["_law_script", "_law_d", "_law_many", "_law_boxes", "_law_other", "_law_row", "_law_turn", "_law_way", "_law_place"]
theorem sc_law : FnScope N_law ["_law_script"] (defScope s_law) := ⟨rfl, rfl, rfl, by decide +kernel, rfl, by decide +kernel, by decide +kernel⟩
theorem ok_law {f : Addr} {fd : FuncData} (F : Fun K "law" "law" s_law f fd) (T : Txt K mg A_Boxes A_HandsError A_NoNumber A_NoBox A_NoHand A_NoDeed)
    (C_l_cell : Sd.Cal P w K mg base CX0 1 "_law_cell" ["_law_script", "_law_k"] (Sd.spCell K)) (C_l_dice : Sd.Cal P w K mg base CX0 2 "_law_dice" ["_law_script", "_law_k"] (Sd.spDice K))
    (C_l_off : Sd.Cal P w K mg base CX0 2 "_law_off" ["_law_d", "_law_most"] (Sd.spOff K)) (C_Boxes : Sd.CalI P w K mg base CX0 1 "Boxes" A_Boxes ["self", "many"] (spInit A_Boxes))
    (C_Boxes_take : Sd.CalM P w K mg base (L2.CX P w) 2 A_Boxes "take" ["self", "place"] (spTake A_Boxes A_NoBox)) (C_Boxes_put : Sd.CalM P w K mg base (L2.CX P w) 2 A_Boxes "put" ["self", "place", "number"] (spPut A_Boxes A_NoBox))
    (C_l_refused : Sd.Cal P w K mg base CX0 3 "_law_refused" ["_law_boxes", "_law_place", "_law_way"] (spRefused A_Boxes)) (C_l_taken : Sd.Cal P w K mg base CX0 3 "_law_taken" ["_law_boxes", "_law_row"] (spTaken A_Boxes)) :
    FnOk P w K mg base CX0 5 f fd ["_law_script"] (spLaw K) := by
  refine F.ok sc_law (fun vs H Q E h => ?_) (fun cdv A outer s H vs Q E hr h => ?_)
  · obtain ⟨a, ns, rfl, _⟩ := h
    rfl
  · obtain ⟨a, ns, rfl, hS, hlen, q⟩ := h
    refine ⟨_, (pss_cons (ps_set (i := 1) sc_law.nd rfl (Or.inl rfl) (Sd.pe_fn C_l_dice (hr.mono (by decide)) pass0 (pa_cons (pv 0) (pa_cons pe_int pa_nil))))
      (pss_cons (ps_set (i := 2) sc_law.nd rfl (Or.inl rfl) (pe_op op_mod (pe_callB call_abs (by rfl) T.abs (by decide +kernel) (pa_cons (Sd.pe_fn C_l_cell (hr.mono (by decide)) pass0 (pa_cons (pv 0) (pa_cons pe_int pa_nil))) pa_nil)) pe_int))
      (pss_cons (ps_set (i := 3) sc_law.nd rfl (Or.inl rfl) (Sd.pe_mk C_Boxes (hr.mono (by decide)) pass0 (pa_cons (pv 2) pa_nil)))
      (pss_cons (ps_set (i := 4) sc_law.nd rfl (Or.inl rfl) (Sd.pe_mk C_Boxes (hr.mono (by decide)) pass0 (pa_cons pe_int pa_nil)))
      (pss_cons (ps_set (i := 5) sc_law.nd rfl (Or.inl rfl) (pe_op op_rep (pe_lst (pa_cons pe_int pa_nil)) (pv 2)))
      (pss_cons (ps_for PassesOwn.never rfl (pi_range1 rfl T.range (pa_cons (pe_op op_mod (pe_callB call_abs (by rfl) T.abs (by decide +kernel) (pa_cons (Sd.pe_fn C_l_cell (hr.mono (by decide)) pass0 (pa_cons (pv 0) (pa_cons pe_int pa_nil))) pa_nil)) pe_int) pa_nil)) (pg_name (i := 6) sc_law.nd rfl (Or.inl rfl))
      (pss_cons (ps_set (i := 7) sc_law.nd rfl (Or.inl rfl) (Sd.pe_fn C_l_off (hr.mono (by decide)) pass0 (pa_cons (pv 1) (pa_cons pe_int pa_nil))))
      (pss_cons (ps_set (i := 8) sc_law.nd rfl (Or.inl rfl) (Sd.pe_fn C_l_off (hr.mono (by decide)) pass0 (pa_cons (pv 1) (pa_cons (pe_callB (call_max2 rfl) (by rfl) T.max (by decide +kernel) (pa_cons pe_int (pa_cons (pv 2) pa_nil))) pa_nil))))
      (pss_one (ps_if (PW.pt (pw_or (pt_cmpR op_eq (pv 2) pe_int (nomark _)) (pw_or1 (pt_cmpR op_eq (Sd.pe_fn C_l_off (hr.mono (by decide)) pass0 (pa_cons (pv 1) (pa_cons pe_int pa_nil))) pe_int (nomark _)))))
      (pss_one (ps_if (pt_not (pt_val (Sd.pe_fn C_l_refused (hr.mono (by decide)) pass0 (pa_cons (pv 3) (pa_cons (pe_ix ix_list (pe_lst (pa_cons (pe_un un_neg pe_int) (pa_cons (pv 2) (pa_cons (pe_op op_add (pe_op op_add (pv 2) (pv 8)) pe_int) (pa_cons (pe_op op_sub (pe_un un_neg pe_int) (pv 8)) pa_nil))))) (Sd.pe_fn C_l_off (hr.mono (by decide)) pass0 (pa_cons (pv 1) (pa_cons pe_int pa_nil))) (fun _ _ => rfl)) (pa_cons (pv 7) pa_nil))))))
      (pss_one (ps_ret pe_bl))
      pss_nil))
      (pss_one (ps_if (pt_cmpR op_eq (pv 7) pe_int (nomark _))
      (pss_one (ps_if (pt_cmpR op_ne (Sd.pe_mt C_Boxes_take (hr.mono (by decide)) passL (pv 3) (pa_cons (pv 8) pa_nil)) (pe_ix ix_list (pv 5) (pv 8) (fun _ _ => rfl)) (nomark _))
      (pss_one (ps_ret pe_bl))
      pss_nil))
      (pss_cons (ps_asg (pe_ix ix_list (pe_lst (pa_cons (Sd.pe_fn C_l_off (hr.mono (by decide)) pass0 (pa_cons (pv 1) (pa_cons pe_int pa_nil))) (pa_cons (pe_op op_add (pe_op op_pow pe_int pe_int) (pv 8)) (pa_cons pe_int pa_nil)))) (Sd.pe_fn C_l_off (hr.mono (by decide)) pass0 (pa_cons (pv 1) (pa_cons pe_int pa_nil))) (fun _ _ => rfl)) (pg_sub (pv 5) (pv 8) set_list))
      (pss_one (ps_if (pt_cmpR op_notN (Sd.pe_mt C_Boxes_put (hr.mono (by decide)) passL (pv 3) (pa_cons (pv 8) (pa_cons (pe_ix ix_list (pv 5) (pv 8) (fun _ _ => rfl)) pa_nil))) pe_non (nomark _))
      (pss_one (ps_ret pe_bl))
      pss_nil))))))))))
      (pss_one (ps_ret (pe_and (Sd.pe_fn C_l_taken (hr.mono (by decide)) pass0 (pa_cons (pv 3) (pa_cons (pv 5) pa_nil))) (pe_one (Sd.pe_fn C_l_taken (hr.mono (by decide)) pass0 (pa_cons (pv 4) (pa_cons (pe_lst (pa_cons pe_int (pa_cons pe_int (pa_cons pe_int pa_nil)))) pa_nil))))))))))))), ?_⟩
    refine ⟨_, rfl, a, ns, 0, rfl, by decide, hS, fun d H1 hd s1 b1 D1 o1 => ?_⟩
    have S1 : SqL K H1 a (ns.map V.int) := s1.seq hS
    refine ⟨_, rfl, a, ns, 1, rfl, by decide, S1, fun v => ⟨v, rfl, _, _, rfl, rfl, (by show (0 : Int) < 10; decide), ?_⟩⟩
    dsimp only
    generalize hN : (if v < 0 then -v else v) % 10 = many
    have hN0 : 0 ≤ many := by rw [← hN]; exact Int.emod_nonneg _ (by decide)
    have hN1 : many < 10 := by rw [← hN]; exact Int.emod_lt_of_pos _ (by decide)
    -- Boxes(many), Boxes(3)
    refine ⟨_, rfl, fun b dx nb ndx nx => ⟨b, dx, many, rfl, hN0, by omega, upd_same, fun l H2 hl bt2 B2 => ⟨rfl, ?_⟩⟩⟩
    have s2 : Same H1 H2 := Sd.made_same nb ndx bt2
    have hl1 : H1 l = none := Sd.made_free nb ndx hl
    refine fun o dy no ndy ny => ⟨o, dy, 3, rfl, by decide, by decide, upd_same, fun lo H3 hlo bt3 B3 => ⟨rfl, ?_⟩⟩
    have s3 : Same H2 H3 := Sd.made_same no ndy bt3
    have hlo2 : H2 lo = none := Sd.made_free no ndy hlo
    have B3' : BoxAt A_Boxes H3 b l (List.replicate many.toNat 0) := B2.same s3
    -- [0] * many
    refine ⟨(by show 1 ≤ sizeLine; decide), fun l0 hl0 => ⟨_, rfl, l0, _, _, rfl, rfl, upd_same, by omega, by omega, Sd.size1 hN0 (by omega), fun r hr2 => ?_⟩⟩
    have s4 : Same H3 (upd H3 l0 (.lst [.int 0])) := Sd.Same.new hl0
    have hr3 : H3 r = none := s4.free hr2
    have s5 := s4.trans (Sd.Same.new (o := .lst (List.replicate many.toNat [V.int 0]).flatten) hr2)
    have hr1 : H1 r = none := (s2.trans s3).free hr3
    have J0 : J K A_Boxes a d b l o lo r ns many (upd (upd H3 l0 (.lst [.int 0])) r (.lst (List.replicate many.toNat [V.int 0]).flatten)) (List.replicate many.toNat 0) :=
      ⟨D1.same ((s2.trans s3).trans s5), ((s2.trans s3).trans s5).seq S1, B3'.same s5, B3.same s5, by rw [upd_same, Sd.rep_flat], by rw [List.length_replicate]; omega⟩
    have nlr : l ≠ r := ne_of_none B3'.2 hr3
    have nlor : lo ≠ r := ne_of_none B3.2 hr3
    have nllo : l ≠ lo := ne_of_none B2.2 hlo2
    generalize upd (upd H3 l0 (.lst [.int 0])) r (.lst (List.replicate many.toNat [V.int 0]).flatten) = H4 at J0
    -- the deeds
    refine ⟨_, rfl, a, ns, 2, rfl, by decide, J0.S, fun v2 => ⟨v2, rfl, _, _, rfl, rfl, (by show (0 : Int) < 41; decide), ?_⟩⟩
    have t0 := Int.emod_nonneg (if v2 < 0 then -v2 else v2) (b := 41) (by decide)
    have t1 := Int.emod_lt_of_pos (if v2 < 0 then -v2 else v2) (b := 41) (by decide)
    refine ⟨_, rfl, by omega, by omega, ?_⟩
    refine for_range (lo := 0) (n := _) (fun i σ H' => ∃ (xs : List Int) (v6 v7 v8 : Option V), σ = [some (.ref a), some (.ref d), some (.int many), some (.ref b), some (.ref o), some (.ref r), v6, v7, v8] ∧ J K A_Boxes a d b l o lo r ns many H' xs)
      ⟨_, none, none, none, rfl, J0⟩ ?_ ?_
    · rintro i σ H' hi ⟨xs, v6, v7, v8, rfl, j⟩
      refine ⟨_, rfl, d, a, ns, 2, rfl, j.D, j.S, by decide, by decide, fun way H1' w0 w1 D1' o1' => ?_⟩
      have j1 := j.draw D1' o1'
      have hM0 : (0 : Int) < (if many > 1 then many else 1) := by split <;> omega
      have hM1 : (if many > 1 then many else 1) < (1073741824 : Int) := by split <;> omega
      refine ⟨_, rfl, _, rfl, _, _, rfl, d, a, ns, _, rfl, j1.D, j1.S, hM0, hM1, fun place H2' p0 p1 D2' o2' => ?_⟩
      have j2 := j1.draw D2' o2'
      refine ⟨_, rfl, rfl, _, rfl, ?_⟩
      refine ite2 (fun c => ?_) (fun c => ?_)
      · skip
        refine ⟨_, rfl, _, rfl, _, rfl, _, rfl, _, rfl, _, _, rfl, rfl, _, _, rfl, rfl, _, rfl, _, rfl, _, _, rfl, rfl, (by show 4 ≤ sizeLine; decide), fun p hp => ?_⟩
        have k6 := j2.same (Sd.Same.new (o := .lst [.int (-1), .int many, .int (many + place + 5), .int (-2 - place)]) hp)
        have np : p ≠ d := fun z => by
          obtain ⟨_, hd5⟩ := j2.D.some
          rw [z, hd5] at hp
          cases hp
        refine ⟨_, rfl, d, a, ns, 4, rfl, k6.D, k6.S, by decide, by decide, fun w4 H7 z0 z1 D7 o7 => ?_⟩
        have k7 := k6.draw D7 o7
        have hp7 : H7 p = some (.lst [.int (-1), .int many, .int (many + place + 5), .int (-2 - place)]) := by rw [o7 p np]; exact upd_same
        obtain ⟨z, hz, hbad⟩ := at4 w4 z0 z1 many place hN0 p0
        have kl := k7.len
        refine ⟨p, _, _, _, rfl, rfl, SqL.of hp7, hz, ?_⟩
        refine ⟨_, rfl, b, l, xs, _, way, rfl, k7.B, fun h => hbad ⟨h.1, by have := h.2; omega⟩, fun H8 s8 => ?_⟩
        exact ⟨true, rfl, xs, _, _, _, rfl, k7.same s8⟩
      have hm : many ≠ 0 := fun z => c (decide_eq_true (by rw [z]))
      have p2 : place < many := by
        split at p1
        · exact p1
        · omega
      refine ⟨_, rfl, d, a, ns, 8, rfl, j2.D, j2.S, by decide, by decide, fun e8 H3' e0 e1 D3' o3' => ?_⟩
      have j3 := j2.draw D3' o3'
      refine ⟨rfl, _, rfl, ?_⟩
      refine ite2 (fun c => ?_) (fun c => ?_)
      · skip
        refine ⟨_, rfl, _, rfl, _, rfl, _, rfl, _, rfl, _, _, rfl, rfl, _, _, rfl, rfl, _, rfl, _, rfl, _, _, rfl, rfl, (by show 4 ≤ sizeLine; decide), fun p hp => ?_⟩
        have k6 := j3.same (Sd.Same.new (o := .lst [.int (-1), .int many, .int (many + place + 5), .int (-2 - place)]) hp)
        have np : p ≠ d := fun z => by
          obtain ⟨_, hd5⟩ := j3.D.some
          rw [z, hd5] at hp
          cases hp
        refine ⟨_, rfl, d, a, ns, 4, rfl, k6.D, k6.S, by decide, by decide, fun w4 H7 z0 z1 D7 o7 => ?_⟩
        have k7 := k6.draw D7 o7
        have hp7 : H7 p = some (.lst [.int (-1), .int many, .int (many + place + 5), .int (-2 - place)]) := by rw [o7 p np]; exact upd_same
        obtain ⟨z, hz, hbad⟩ := at4 w4 z0 z1 many place hN0 p0
        have kl := k7.len
        refine ⟨p, _, _, _, rfl, rfl, SqL.of hp7, hz, ?_⟩
        refine ⟨_, rfl, b, l, xs, _, way, rfl, k7.B, fun h => hbad ⟨h.1, by have := h.2; omega⟩, fun H8 s8 => ?_⟩
        exact ⟨true, rfl, xs, _, _, _, rfl, k7.same s8⟩
      obtain ⟨m, hm'⟩ := Int.eq_ofNat_of_zero_le p0
      have hlen3 := j3.len
      have hml : m < xs.length := by omega
      refine ⟨_, rfl, rfl, _, rfl, ?_⟩
      refine ite2 (fun c => ?_) (fun c => ?_)
      · -- take
        obtain ⟨⟨dx3, hb3⟩, hl3⟩ := id j3.B
        refine ⟨_, rfl, b, dx3, _, rfl, hb3, fs1_no l (by decide +kernel), _, rfl, b, l, xs, _, rfl, j3.B, fun n v e hn => ?_, fun h => (h ⟨by omega, by omega⟩).elim⟩
        refine ⟨_, rfl, _, rfl, r, _, _, _, rfl, rfl, SqL.of j3.R, at_of e (Sd.ints_get hn), rfl, _, rfl, iteNS rfl ?_⟩
        exact ⟨xs, _, _, _, rfl, j3⟩
      · -- put
        refine ⟨_, rfl, d, a, ns, 1000, rfl, j3.D, j3.S, by decide, by decide, fun x H5 x0 x1 D5 o5 => ?_⟩
        have j5 := j3.draw D5 o5
        refine ⟨_, _, rfl, rfl, ⟨by decide, by decide, by decide⟩, _, rfl, _, _, rfl, rfl, (by show 3 ≤ sizeLine; decide), fun p hp => ?_⟩
        have j6 := j5.same (Sd.Same.new (o := .lst [.int x, .int (10 ^ Int.toNat 40 + place), .int 0]) hp)
        have np : p ≠ d := fun z => by
          obtain ⟨_, hd5⟩ := D5.some
          rw [z, hd5] at hp
          cases hp
        refine ⟨_, rfl, d, a, ns, 3, rfl, j6.D, j6.S, by decide, by decide, fun w3 H7 z0 z1 D7 o7 => ?_⟩
        have j7 := j6.draw D7 o7
        have hp7 : H7 p = some (.lst [.int x, .int (10 ^ Int.toNat 40 + place), .int 0]) := by rw [o7 p np]; exact upd_same
        obtain ⟨z, hz⟩ := at3 w3 z0 z1 x (10 ^ Int.toNat 40 + place)
        refine ⟨p, _, _, _, rfl, rfl, SqL.of hp7, hz, ?_⟩
        refine ⟨_, rfl, _, rfl, r, _, _, m, rfl, rfl, j7.R, ?_, ?_⟩
        · rw [List.length_map, hm']
          exact Sd.ixN_nat hml
        rw [← List.map_set]
        have bt8 : Sd.But r H7 (upd H7 r (.lst ((xs.set m z).map V.int))) := Sd.But.upd
        obtain ⟨⟨dx7, hb7⟩, hl7⟩ := id j7.B
        obtain ⟨⟨dy7, ho7⟩, hlo7⟩ := id j7.O
        have nbr : b ≠ r := ne_of hb7 j7.R (by intro z; cases z)
        have nor : o ≠ r := ne_of ho7 j7.R (by intro z; cases z)
        have ndr : d ≠ r := (j7.D.ne_ints j7.R).symm
        have B8 := j7.B.but bt8 nbr nlr
        have O8 := j7.O.but bt8 nor nlor
        have D8 : Sd.Dice _ d a := j7.D.but bt8 ndr
        have S8 : SqL K (upd H7 r (.lst ((xs.set m z).map V.int))) a (ns.map V.int) := Sd.SqL.other S1 hr1 j7.S bt8
        have R8 : upd H7 r (.lst ((xs.set m z).map V.int)) r = some (.lst ((xs.set m z).map V.int)) := upd_same
        generalize upd H7 r (.lst ((xs.set m z).map V.int)) = H8 at B8 O8 D8 S8 R8
        obtain ⟨⟨dx8, hb8⟩, hl8⟩ := id B8
        have hg : (xs.set m z)[m]? = some z := List.getElem?_set_self hml
        refine ⟨_, rfl, b, dx8, _, rfl, hb8, fs1_no l (by decide +kernel), _, rfl, _, rfl, _, rfl, r, _, _, _, rfl, rfl, SqL.of R8, at_of hm' (Sd.ints_get hg), ?_⟩
        refine ⟨b, l, xs, _, _, rfl, B8, fun n H9 e hn B9 bt9 => ?_, fun h => (h ⟨by omega, by omega⟩).elim⟩
        refine ⟨rfl, _, rfl, iteNS rfl ?_⟩
        have en : n = m := by omega
        rw [en] at B9
        obtain ⟨⟨dy8, ho8⟩, hlo8⟩ := id O8
        exact ⟨xs.set m z, _, _, _, rfl, D8.but bt9 (D8.ne_ints hl8).symm, Sd.SqL.other S1 hl1 S8 bt9, B9, O8.but bt9 (ne_of ho8 hl8 (by intro z; cases z)) nllo.symm, bt9 _ _ nlr.symm R8, by rw [List.length_set]; exact hlen3⟩
    · rintro σ H' ⟨xs, v6, v7, v8, rfl, j⟩
      have hx := j.len
      refine ⟨_, rfl, _, rfl, b, l, r, xs, rfl, j.B, j.R, by omega, true, rfl, ?_⟩
      exact ⟨_, rfl, (by show 3 ≤ sizeLine; decide), fun p hp => ⟨o, lo, p, [0, 0, 0], rfl, j.O.same (Sd.Same.new hp), upd_same, by decide, q _⟩⟩
end
theorem all_mk {l : PySem.W.OpenLaw} {w : World} {K : PySem.W.Frag} {h : Heap} {mg : Str → Option Value} {fa f1 f2 f3 f4 f5 f6 f7 f8 f9 f10 A_Boxes A_HandsError A_NoNumber A_NoBox A_NoHand A_NoDeed : Addr} (X : K.In h) (G : h.Ns mainGlobals mg) (hfa : mg "law" = some (.ref fa))
    {od1 an1 od2 an2 od3 an3 od4 an4 od5 an5 od6 an6 od7 an7 od8 an8 od9 an9 od10 an10 : Option Addr} {sl1 sl2 sl3 sl4 sl5 sl6 sl7 sl8 sl9 sl10 : Array (Option Value)} {oc1 kV1 dc1 pm1 cd1 ct1 oc2 kV2 dc2 pm2 cd2 ct2 oc3 kV3 dc3 pm3 cd3 ct3 oc4 kV4 dc4 pm4 cd4 ct4 oc5 kV5 dc5 pm5 cd5 ct5 oc6 kV6 dc6 pm6 cd6 ct6 oc7 kV7 dc7 pm7 cd7 ct7 oc8 kV8 dc8 pm8 cd8 ct8 oc9 kV9 dc9 pm9 cd9 ct9 oc10 kV10 dc10 pm10 cd10 ct10 : Value}
    (a_Boxes : PySem.W.nsIn K mainGlobals "Boxes" = some (some (.ref A_Boxes)))
    (a_HandsError : PySem.W.nsIn K mainGlobals "HandsError" = some (some (.ref A_HandsError)))
    (a_NoNumber : PySem.W.nsIn K mainGlobals "NoNumber" = some (some (.ref A_NoNumber)))
    (a_NoBox : PySem.W.nsIn K mainGlobals "NoBox" = some (some (.ref A_NoBox)))
    (a_NoHand : PySem.W.nsIn K mainGlobals "NoHand" = some (some (.ref A_NoHand)))
    (a_NoDeed : PySem.W.nsIn K mainGlobals "NoDeed" = some (some (.ref A_NoDeed)))
    (x_NoBox : PySem.W.excIn K A_NoBox [.type "ValueError", .type "Exception", .type "BaseException", .type "object"] "ValueError.__new__" = true)
    (k_NoBox : PySem.W.keepIn K (.ref A_NoBox) = true)
    (b_NoBox : PySem.W.subIn K (.ref A_NoBox) (.type "BaseException") = some true)
    (t_NoBox : PySem.W.typeIn K (.ref A_NoBox) = some (.type "type"))
    (bS_NoBox : PySem.W.subIn K (.ref A_HandsError) (.type "BaseException") = some true)
    (hS_NoBox : PySem.W.hasDictIn K A_HandsError = true)
    (tS_NoBox : PySem.W.typeIn K (.ref A_HandsError) = some (.type "type"))
    (u_NoBox : PySem.W.subIn K (.ref A_NoBox) (.ref A_HandsError) = some true)
    (e1_NoBox : PySem.W.findIn K (.ref A_NoBox) "__getattribute__" = some (some (.builtin "BaseException.__getattribute__")))
    (e2_NoBox : PySem.W.findIn K (.ref A_NoBox) "__getattr__" = some none)
    (e3_NoBox : PySem.W.hasDictIn K A_NoBox = true)
    (e4_NoBox : PySem.W.findIn K (.ref A_NoBox) "__class__" = some (some (.builtin "object.__class__")))
    (e5_NoBox : PySem.W.specialIn K (.builtin "object.__class__") "__get__" = some (some (.builtin "getset_descriptor.__get__")))
    (e6_NoBox : PySem.W.takesIn K (.builtin "object.__class__") = some true)
    (e7_NoBox : PySem.W.mroIn K A_NoBox (.type "object") = some true)
    (me_NoBox : PySem.W.kitOne K (.ref A_NoBox) (.ref A_NoBox) = some true)
    (ve_NoBox : PySem.W.kitOne K (.ref A_NoBox) (.type "ValueError") = some true)
    (no_NoBox_NoNumber : PySem.W.kitOne K (.ref A_NoBox) (.ref A_NoNumber) = some false)
    (no_NoBox_NoDeed : PySem.W.kitOne K (.ref A_NoBox) (.ref A_NoDeed) = some false)
    (no_NoBox_NoHand : PySem.W.kitOne K (.ref A_NoBox) (.ref A_NoHand) = some false)
    (a1 : PySem.W.nsIn K mainGlobals "_law_cell" = some (some (.ref f1)))
    (l1 : K.lookup f1 = some ⟨oc1, od1, .func (PySem.W.fnOf "_law_cell" "_law_cell" (defArgs s_l_cell) (defBody s_l_cell) (defScope s_l_cell) .none kV1 dc1 pm1 an1 cd1 ct1), sl1⟩)
    (c1 : PySem.W.codeIn K cd1 "_law_cell" = true)
    (k1 : PySem.W.keepIn K (.ref f1) = true)
    (a2 : PySem.W.nsIn K mainGlobals "_law_dice" = some (some (.ref f2)))
    (l2 : K.lookup f2 = some ⟨oc2, od2, .func (PySem.W.fnOf "_law_dice" "_law_dice" (defArgs s_l_dice) (defBody s_l_dice) (defScope s_l_dice) .none kV2 dc2 pm2 an2 cd2 ct2), sl2⟩)
    (c2 : PySem.W.codeIn K cd2 "_law_dice" = true)
    (k2 : PySem.W.keepIn K (.ref f2) = true)
    (a3 : PySem.W.nsIn K mainGlobals "_law_off" = some (some (.ref f3)))
    (l3 : K.lookup f3 = some ⟨oc3, od3, .func (PySem.W.fnOf "_law_off" "_law_off" (defArgs s_l_off) (defBody s_l_off) (defScope s_l_off) .none kV3 dc3 pm3 an3 cd3 ct3), sl3⟩)
    (c3 : PySem.W.codeIn K cd3 "_law_off" = true)
    (k3 : PySem.W.keepIn K (.ref f3) = true)
    (a4 : PySem.W.findIn K (.ref A_Boxes) "__init__" = some (some (.ref f4)))
    (i4 : PySem.W.isFn K (.ref f4) = true)
    (l4 : K.lookup f4 = some ⟨oc4, od4, .func (PySem.W.fnOf "__init__" "Boxes.__init__" (defArgs s_Boxes__init_) (defBody s_Boxes__init_) (defScope s_Boxes__init_) .none kV4 dc4 pm4 an4 cd4 ct4), sl4⟩)
    (c4 : PySem.W.codeIn K cd4 "Boxes.__init__" = true)
    (k4 : PySem.W.keepIn K (.ref f4) = true)
    (a5 : PySem.W.findIn K (.ref A_Boxes) "_need" = some (some (.ref f5)))
    (i5 : PySem.W.isFn K (.ref f5) = true)
    (l5 : K.lookup f5 = some ⟨oc5, od5, .func (PySem.W.fnOf "_need" "Boxes._need" (defArgs s_Boxes_need) (defBody s_Boxes_need) (defScope s_Boxes_need) .none kV5 dc5 pm5 an5 cd5 ct5), sl5⟩)
    (c5 : PySem.W.codeIn K cd5 "Boxes._need" = true)
    (k5 : PySem.W.keepIn K (.ref f5) = true)
    (a6 : PySem.W.findIn K (.ref A_Boxes) "take" = some (some (.ref f6)))
    (i6 : PySem.W.isFn K (.ref f6) = true)
    (l6 : K.lookup f6 = some ⟨oc6, od6, .func (PySem.W.fnOf "take" "Boxes.take" (defArgs s_Boxes_take) (defBody s_Boxes_take) (defScope s_Boxes_take) .none kV6 dc6 pm6 an6 cd6 ct6), sl6⟩)
    (c6 : PySem.W.codeIn K cd6 "Boxes.take" = true)
    (k6 : PySem.W.keepIn K (.ref f6) = true)
    (a7 : PySem.W.findIn K (.ref A_Boxes) "put" = some (some (.ref f7)))
    (i7 : PySem.W.isFn K (.ref f7) = true)
    (l7 : K.lookup f7 = some ⟨oc7, od7, .func (PySem.W.fnOf "put" "Boxes.put" (defArgs s_Boxes_put) (defBody s_Boxes_put) (defScope s_Boxes_put) .none kV7 dc7 pm7 an7 cd7 ct7), sl7⟩)
    (c7 : PySem.W.codeIn K cd7 "Boxes.put" = true)
    (k7 : PySem.W.keepIn K (.ref f7) = true)
    (a8 : PySem.W.nsIn K mainGlobals "_law_refused" = some (some (.ref f8)))
    (l8 : K.lookup f8 = some ⟨oc8, od8, .func (PySem.W.fnOf "_law_refused" "_law_refused" (defArgs s_l_refused) (defBody s_l_refused) (defScope s_l_refused) .none kV8 dc8 pm8 an8 cd8 ct8), sl8⟩)
    (c8 : PySem.W.codeIn K cd8 "_law_refused" = true)
    (k8 : PySem.W.keepIn K (.ref f8) = true)
    (a9 : PySem.W.nsIn K mainGlobals "_law_taken" = some (some (.ref f9)))
    (l9 : K.lookup f9 = some ⟨oc9, od9, .func (PySem.W.fnOf "_law_taken" "_law_taken" (defArgs s_l_taken) (defBody s_l_taken) (defScope s_l_taken) .none kV9 dc9 pm9 an9 cd9 ct9), sl9⟩)
    (c9 : PySem.W.codeIn K cd9 "_law_taken" = true)
    (k9 : PySem.W.keepIn K (.ref f9) = true)
    (a10 : PySem.W.nsIn K mainGlobals "law" = some (some (.ref f10)))
    (l10 : K.lookup f10 = some ⟨oc10, od10, .func (PySem.W.fnOf "law" "law" (defArgs s_law) (defBody s_law) (defScope s_law) .none kV10 dc10 pm10 an10 cd10 ct10), sl10⟩)
    (c10 : PySem.W.codeIn K cd10 "law" = true)
    (k10 : PySem.W.keepIn K (.ref f10) = true)
    (pg_Boxes : PySem.W.plainGet K A_Boxes Str.empty = true)
    (hd_Boxes : PySem.W.hasDictIn K A_Boxes = true)
    (po_Boxes : PySem.W.plainOver K A_Boxes = true)
    (sa_Boxes : PySem.W.findIn K (.ref A_Boxes) "__setattr__" = some (some (.builtin "object.__setattr__")))
    (mk_Boxes : PySem.W.makesIn K A_Boxes = true)
    (kc_Boxes : PySem.W.keepIn K (.ref A_Boxes) = true)
    (n_Boxes__numbers : PySem.W.findIn K (.ref A_Boxes) "_numbers" = some none)
    (z_abs : PySem.W.nsIn K mainGlobals "abs" = some none)
    (z_len : PySem.W.nsIn K mainGlobals "len" = some none)
    (z_max : PySem.W.nsIn K mainGlobals "max" = some none)
    (z_int : PySem.W.nsIn K mainGlobals "int" = some none)
    (z_range : PySem.W.nsIn K mainGlobals "range" = some none)
    (z_isinstance : PySem.W.nsIn K mainGlobals "isinstance" = some none)
    (z_bool : PySem.W.nsIn K mainGlobals "bool" = some none)
    (z_ValueError : PySem.W.nsIn K mainGlobals "ValueError" = some none)
    : ∃ fd : FuncData, (∀ (s : Shared) (v : Value), BindsTo s fd ⟨[v], []⟩ [("_law_script", v)]) ∧ ∀ base : Heap, K.In base → base.Ns mainGlobals mg → FnOk l.prog w K mg base CX0 5 fa fd ["_law_script"] (spLaw K) := by
  have e := hfa.symm.trans (PySem.W.mg_of X G a10)
  cases e
  have T : Txt K mg A_Boxes A_HandsError A_NoNumber A_NoBox A_NoHand A_NoDeed :=
    { m_HandsError := PySem.W.mg_of X G a_HandsError,
      m_NoNumber := PySem.W.mg_of X G a_NoNumber,
      m_NoBox := PySem.W.mg_of X G a_NoBox,
      m_NoHand := PySem.W.mg_of X G a_NoHand,
      m_NoDeed := PySem.W.mg_of X G a_NoDeed,
      r_NoBox := ⟨x_NoBox, k_NoBox, b_NoBox, t_NoBox, bS_NoBox, hS_NoBox, tS_NoBox, u_NoBox, ⟨e1_NoBox, e2_NoBox, b_NoBox, e3_NoBox, e4_NoBox, e5_NoBox, e6_NoBox, e7_NoBox⟩, me_NoBox, ve_NoBox, fun o ho => by
        simp only [List.mem_cons, List.not_mem_nil, or_false] at ho
        rcases ho with rfl | rfl | rfl
        all_goals assumption⟩,
      abs := PySem.W.mg_none_of X G z_abs,
      len := PySem.W.mg_none_of X G z_len,
      max := PySem.W.mg_none_of X G z_max,
      int := PySem.W.mg_none_of X G z_int,
      range := PySem.W.mg_none_of X G z_range,
      isinstance := PySem.W.mg_none_of X G z_isinstance,
      bool := PySem.W.mg_none_of X G z_bool,
      ValueError := PySem.W.mg_none_of X G z_ValueError,
      m_Boxes := PySem.W.mg_of X G a_Boxes,
      cl_Boxes := ⟨pg_Boxes, hd_Boxes, po_Boxes, sa_Boxes⟩,
      n_Boxes__numbers := n_Boxes__numbers }
  have F1 := fun_mk (st := s_l_cell) l1 c1 k1
  have B1 := F1.binds (ps := ["_law_script", "_law_k"]) fun _ _ _ _ _ _ us hl => match us, hl with | [_, _], _ => rfl
  have F2 := fun_mk (st := s_l_dice) l2 c2 k2
  have B2 := F2.binds (ps := ["_law_script", "_law_k"]) fun _ _ _ _ _ _ us hl => match us, hl with | [_, _], _ => rfl
  have F3 := fun_mk (st := s_l_off) l3 c3 k3
  have B3 := F3.binds (ps := ["_law_d", "_law_most"]) fun _ _ _ _ _ _ us hl => match us, hl with | [_, _], _ => rfl
  have F4 := fun_mk (st := s_Boxes__init_) l4 c4 k4
  have B4 := F4.binds (ps := ["self", "many"]) fun _ _ _ _ _ _ us hl => match us, hl with | [_, _], _ => rfl
  have F5 := fun_mk (st := s_Boxes_need) l5 c5 k5
  have B5 := F5.binds (ps := ["self", "place"]) fun _ _ _ _ _ _ us hl => match us, hl with | [_, _], _ => rfl
  have F6 := fun_mk (st := s_Boxes_take) l6 c6 k6
  have B6 := F6.binds (ps := ["self", "place"]) fun _ _ _ _ _ _ us hl => match us, hl with | [_, _], _ => rfl
  have F7 := fun_mk (st := s_Boxes_put) l7 c7 k7
  have B7 := F7.binds (ps := ["self", "place", "number"]) fun _ _ _ _ _ _ us hl => match us, hl with | [_, _, _], _ => rfl
  have F8 := fun_mk (st := s_l_refused) l8 c8 k8
  have B8 := F8.binds (ps := ["_law_boxes", "_law_place", "_law_way"]) fun _ _ _ _ _ _ us hl => match us, hl with | [_, _, _], _ => rfl
  have F9 := fun_mk (st := s_l_taken) l9 c9 k9
  have B9 := F9.binds (ps := ["_law_boxes", "_law_row"]) fun _ _ _ _ _ _ us hl => match us, hl with | [_, _], _ => rfl
  have F10 := fun_mk (st := s_law) l10 c10 k10
  have B10 := F10.binds (ps := ["_law_script"]) fun _ _ _ _ _ _ us hl => match us, hl with | [_], _ => rfl
  refine ⟨PySem.W.fnOf "law" "law" (defArgs s_law) (defBody s_law) (defScope s_law) .none kV10 dc10 pm10 an10 cd10 ct10, fun s v => .of_eq rfl, fun base _ _ => ?_⟩
  have C_l_cell : Sd.Cal l.prog w K mg base CX0 1 "_law_cell" ["_law_script", "_law_k"] (Sd.spCell K) := Sd.Cal.mk' F1 (PySem.W.mg_of X G a1) B1 (ok_l_cell F1 T.toDr)
  have C_l_dice : Sd.Cal l.prog w K mg base CX0 2 "_law_dice" ["_law_script", "_law_k"] (Sd.spDice K) := Sd.Cal.mk' F2 (PySem.W.mg_of X G a2) B2 (ok_l_dice F2 T.toDr C_l_cell)
  have C_l_off : Sd.Cal l.prog w K mg base CX0 2 "_law_off" ["_law_d", "_law_most"] (Sd.spOff K) := Sd.Cal.mk' F3 (PySem.W.mg_of X G a3) B3 (ok_l_off F3 T.toDr C_l_cell)
  have C_Boxes : Sd.CalI l.prog w K mg base CX0 1 "Boxes" A_Boxes ["self", "many"] (spInit A_Boxes) := Sd.CalI.mk' F4 (PySem.W.mg_of X G a_Boxes) ⟨mk_Boxes, a4, i4, kc_Boxes⟩ B4 (ok_Boxes__init_ F4 T)
  have C_Boxes_need : Sd.CalM l.prog w K mg base (L2.CX l.prog w) 1 A_Boxes "_need" ["self", "place"] (spNeed A_Boxes A_NoBox) := Sd.CalM.mk' F5 T.cl_Boxes ⟨a5, i5, k5⟩ B5 (ok_Boxes_need F5 T)
  have C_Boxes_take : Sd.CalM l.prog w K mg base (L2.CX l.prog w) 2 A_Boxes "take" ["self", "place"] (spTake A_Boxes A_NoBox) := Sd.CalM.mk' F6 T.cl_Boxes ⟨a6, i6, k6⟩ B6 (ok_Boxes_take F6 T C_Boxes_need)
  have C_Boxes_put : Sd.CalM l.prog w K mg base (L2.CX l.prog w) 2 A_Boxes "put" ["self", "place", "number"] (spPut A_Boxes A_NoBox) := Sd.CalM.mk' F7 T.cl_Boxes ⟨a7, i7, k7⟩ B7 (ok_Boxes_put F7 T C_Boxes_need)
  have C_l_refused : Sd.Cal l.prog w K mg base CX0 3 "_law_refused" ["_law_boxes", "_law_place", "_law_way"] (spRefused A_Boxes) := Sd.Cal.mk' F8 (PySem.W.mg_of X G a8) B8 (ok_l_refused F8 T C_Boxes_take C_Boxes_put)
  have C_l_taken : Sd.Cal l.prog w K mg base CX0 3 "_law_taken" ["_law_boxes", "_law_row"] (spTaken A_Boxes) := Sd.Cal.mk' F9 (PySem.W.mg_of X G a9) B9 (ok_l_taken F9 T C_Boxes_take)
  exact ok_law F10 T C_l_cell C_l_dice C_l_off C_Boxes C_Boxes_take C_Boxes_put C_l_refused C_l_taken
theorem walk {l : PySem.W.OpenLaw} {q : Program} {loose : List Str} {XP : (Str → Option Value) → Heap → Prop} {YP : World → Heap → Prop} {d : DefRec} {K : Params → PySem.W.Frag} (hn : l.most = some 63) (hdf : d.params.defaults = [])
    (hY : ∀ (w : World) (h : Heap), YP w h → (K w.params).In h)
    (F : ∀ (w : World) (mg : Str → Option Value) (fa : Addr) (h : Heap), (K w.params).In h → h.Ns mainGlobals mg → mg d.name = some (.ref fa) →
      ∃ fd : FuncData, (∀ (s : Shared) (u : Value), BindsTo s fd ⟨[u], []⟩ [("_law_script", u)]) ∧ ∀ base : Heap, (K w.params).In base → base.Ns mainGlobals mg → FnOk l.prog w (K w.params) mg base CX0 5 fa fd ["_law_script"] (spLaw (K w.params))) :
    PySem.W.WalkO q loose XP YP l.row.toRowW d [] (fun f vs => PySem.call f vs) :=
  L2.walk_of (n := 63) (k := 5) (x := "_law_script") (CX := fun _ => CX0) (sp := fun w => spLaw (K w.params)) hn (by decide) hdf ⟨rfl, by decide, by decide⟩ hY F (fun _ _ a ns hl _ hS => ⟨a, ns, rfl, hS, hl, fun _ => rfl⟩) fun _ _ _ _ _ z => z
end K03
open PySem PySem.W PyProof.Rows in
set_option maxRecDepth 100000 in
set_option maxHeartbeats 0 in
theorem PySem.Challenge.cw_stillhands_k03_boxes_holds : PySem.Challenge.rw_stillhands_k03_boxes.Holds := by
  w_on; o_law; k_head; (case hw => w_witness2)
  k_fill
  refine K03.walk (l := PySem.Challenge.rw_stillhands_k03_boxes) rfl rfl (fun w h Y => PySem.W.kIn_of Y) ?F
  case F =>
    intro w mg fa h KX G hmg
    refine' K03.all_mk KX G hmg ?a_Boxes ?a_HandsError ?a_NoNumber ?a_NoBox ?a_NoHand ?a_NoDeed ?x_NoBox ?k_NoBox ?b_NoBox ?t_NoBox ?bS_NoBox ?hS_NoBox ?tS_NoBox ?u_NoBox ?e1_NoBox ?e2_NoBox ?e3_NoBox ?e4_NoBox ?e5_NoBox ?e6_NoBox ?e7_NoBox ?me_NoBox ?ve_NoBox ?no_NoBox_NoNumber ?no_NoBox_NoDeed ?no_NoBox_NoHand ?a1 ?l1 ?c1 ?k1 ?a2 ?l2 ?c2 ?k2 ?a3 ?l3 ?c3 ?k3 ?a4 ?i4 ?l4 ?c4 ?k4 ?a5 ?i5 ?l5 ?c5 ?k5 ?a6 ?i6 ?l6 ?c6 ?k6 ?a7 ?i7 ?l7 ?c7 ?k7 ?a8 ?l8 ?c8 ?k8 ?a9 ?l9 ?c9 ?k9 ?a10 ?l10 ?c10 ?k10 ?pg_Boxes ?hd_Boxes ?po_Boxes ?sa_Boxes ?mk_Boxes ?kc_Boxes ?n_Boxes__numbers ?z_abs ?z_len ?z_max ?z_int ?z_range ?z_isinstance ?z_bool ?z_ValueError
    (case a_Boxes => k_is)
    (case a_HandsError => k_is)
    (case a_NoNumber => k_is)
    (case a_NoBox => k_is)
    (case a_NoHand => k_is)
    (case a_NoDeed => k_is)
    (case x_NoBox => k_exc)
    (case k_NoBox => k_is)
    (case b_NoBox => k_is)
    (case t_NoBox => k_is)
    (case bS_NoBox => k_is)
    (case hS_NoBox => k_is)
    (case tS_NoBox => k_is)
    (case u_NoBox => k_is)
    (case e1_NoBox => k_is)
    (case e2_NoBox => k_is)
    (case e3_NoBox => k_is)
    (case e4_NoBox => k_is)
    (case e5_NoBox => k_is)
    (case e6_NoBox => k_is)
    (case e7_NoBox => k_is)
    (case me_NoBox => kit_is)
    (case ve_NoBox => kit_is)
    (case no_NoBox_NoNumber => kit_is)
    (case no_NoBox_NoDeed => kit_is)
    (case no_NoBox_NoHand => kit_is)
    (case a1 => k_is)
    (case l1 => k_is)
    (case c1 => k_is)
    (case k1 => k_is)
    (case a2 => k_is)
    (case l2 => k_is)
    (case c2 => k_is)
    (case k2 => k_is)
    (case a3 => k_is)
    (case l3 => k_is)
    (case c3 => k_is)
    (case k3 => k_is)
    (case a4 => k_is)
    (case i4 => k_is)
    (case l4 => k_is)
    (case c4 => k_is)
    (case k4 => k_is)
    (case a5 => k_is)
    (case i5 => k_is)
    (case l5 => k_is)
    (case c5 => k_is)
    (case k5 => k_is)
    (case a6 => k_is)
    (case i6 => k_is)
    (case l6 => k_is)
    (case c6 => k_is)
    (case k6 => k_is)
    (case a7 => k_is)
    (case i7 => k_is)
    (case l7 => k_is)
    (case c7 => k_is)
    (case k7 => k_is)
    (case a8 => k_is)
    (case l8 => k_is)
    (case c8 => k_is)
    (case k8 => k_is)
    (case a9 => k_is)
    (case l9 => k_is)
    (case c9 => k_is)
    (case k9 => k_is)
    (case a10 => k_is)
    (case l10 => k_is)
    (case c10 => k_is)
    (case k10 => k_is)
    (case pg_Boxes => k_is)
    (case hd_Boxes => k_is)
    (case po_Boxes => k_is)
    (case sa_Boxes => k_is)
    (case mk_Boxes => k_is)
    (case kc_Boxes => k_is)
    (case n_Boxes__numbers => k_is)
    (case z_abs => k_is)
    (case z_len => k_is)
    (case z_max => k_is)
    (case z_int => k_is)
    (case z_range => k_is)
    (case z_isinstance => k_is)
    (case z_bool => k_is)
    (case z_ValueError => k_is)
