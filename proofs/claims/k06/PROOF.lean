import PyProof.Rows.All
import Wide.All
import OpenK.AllK
import Wide.FinOn
import HandS.ForMost
import HandS.ForExc
import HandS.Rev
import HandS.IsInst
import HandS.ExcIs
import HandS.Codes
import KE.RegKIsAll
import PySem.Challenge.RW_stillhands_k06_most_steps
set_option Elab.async false
set_option linter.all false
set_option maxRecDepth 100000
set_option maxHeartbeats 4000000
/-! words of mine over the hand layer: a def that the module holds under a name (Cal), its call; lists; the draws of a script -/
namespace Sd
open PySem L2
/-- the module's name x holds a def that keeps sp -/
structure Cal (P : Program) (w : World) (K : PySem.W.Frag) (mg : Str → Option Value) (base : Heap) (CX : CXT) (k : Nat) (x : Str) (ps : List Str) (sp : Sp) : Prop where
  ex : ∃ f fd, mg x = some (.ref f) ∧ PySem.W.keepIn K (.ref f) = true ∧ Binds K fd ps [] ∧ FnOk P w K mg base CX k f fd ps sp
section
variable {X : Cx} {CX : CXT} {k : Nat} {ps : List Str} {sp : Sp} {E : XK} {x : Str} {p pos : Pos} {e : Expr} {es : List Expr} {t : TA}
theorem pe_fn (c : Cal X.prog X.w X.K X.mg X.base CX k x ps sp) (hr : Room k X.A) (hx : Passes CX X E) (ha : PA X (e :: es) t) (hg : Gl X x := by rfl)
    (hdb : (x == ("__debug__" : Str)) = false := by decide) (he : starEach (e :: es) X.env = (false, eval e X.env) :: starEach es X.env := by rfl) (hpl : (backTo pos (starEach es X.env)).any (·.1) = false := by rfl) :
    PE X (.Call (.Name x p) (e :: es) [] pos) (tCall sp [] E t) := by
  obtain ⟨f, fd, hm, hk, hb, F⟩ := c.ex
  exact pe_call F hr hg hm hk hb .nil hx ha hdb he hpl
theorem pe_fn0 (c : Cal X.prog X.w X.K X.mg X.base CX k x ps sp) (hr : Room k X.A) (hx : Passes CX X E) (hg : Gl X x := by rfl)
    (hdb : (x == ("__debug__" : Str)) = false := by decide) : PE X (.Call (.Name x p) [] [] pos) (tCall sp [] E tNil) := by
  obtain ⟨f, fd, hm, hk, hb, F⟩ := c.ex
  exact pe_call0 F hr hg hm hk hb .nil hx hdb
end
theorem Cal.mk' {P : Program} {w : World} {K : PySem.W.Frag} {mg : Str → Option Value} {base : Heap} {CX : CXT} {k : Nat} {x q : Str} {st : Stmt} {f : Addr} {fd : FuncData} {ps : List Str} {sp : Sp}
    (F : Fun K x q st f fd) (hm : mg x = some (.ref f)) (b : Binds K fd ps []) (G : FnOk P w K mg base CX k f fd ps sp) : Cal P w K mg base CX k x ps sp := ⟨f, fd, hm, F.kp, b, G⟩

/-! ### heaps -/
/-- what was tracked stands, but for the object at d -/
def But (d : Addr) (H H' : Hp) : Prop := ∀ b o, b ≠ d → H b = some o → H' b = some o
theorem But.refl (d : Addr) (H : Hp) : But d H H := fun _ _ _ h => h
theorem But.trans {d : Addr} {H H1 H2 : Hp} (a : But d H H1) (b : But d H1 H2) : But d H H2 := fun c o n h => b c o n (a c o n h)
theorem But.upd {d : Addr} {H : Hp} {o : HO} : But d H (upd H d o) := fun b u n h => by
  rw [upd_ne n]
  exact h
theorem Same.but {d : Addr} {H H' : Hp} (s : Same H H') : But d H H' := fun b o _ h => s b o h
theorem Same.new {H : Hp} {p : Addr} {o : HO} (h : H p = none) : Same H (upd H p o) := fun b u e => by
  rw [upd_ne (ne_of_none e h)]
  exact e
theorem Same.new2 {H : Hp} {p : Addr} {o o2 : HO} (h : H p = none) : Same H (upd (upd H p o) p o2) := fun b u e => by
  rw [upd_ne (ne_of_none e h), upd_ne (ne_of_none e h)]
  exact e
theorem But.same {d : Addr} {H H' : Hp} (s : But d H H') (h : H d = none) : Same H H' := fun b o e => s b o (ne_of_none e h) e
/-- the heap H' tracks what it did, and at d what it says -/
theorem But.free {d : Addr} {H H' : Hp} (s : But d H H') {u : HO} (hd : H' d = some u) {l : Addr} (h : H' l = none) : H l = none := by
  cases q : H l with
  | none => rfl
  | some o =>
    have n : l ≠ d := fun z => by
      rw [z, hd] at h
      cases h
    rw [s l o n q] at h
    cases h
theorem SqL.new {K : PySem.W.Frag} {H : Hp} {a p : Addr} {xs : List V} {o : HO} (h : SqL K H a xs) (n : H p = none) : SqL K (upd H p o) a xs := Same.seq (Same.new n) h
theorem SqL.but {K : PySem.W.Frag} {H H' : Hp} {a d : Addr} {xs : List V} (h : SqL K H a xs) (s : But d H H') (n : a ≠ d ∨ H d = none) : SqL K H' a xs := by
  rcases n with n | n
  · rcases h with (h | ⟨o, h⟩) | h
    · exact .inl (.inl (s _ _ n h))
    · exact .inl (.inr ⟨o, s _ _ n h⟩)
    · exact .inr h
  · exact Same.seq (s.same n) h
/-- a list that holds the object p is no list of ints -/
theorem SqL.keep {K : PySem.W.Frag} {H H' : Hp} {a d : Addr} {xs ys : List V} (h : SqL K H a xs) (s : But d H H') (hd : H d = some (.lst ys)) (n : ys ≠ xs) : SqL K H' a xs := by
  rcases h with (h | ⟨o, h⟩) | h
  · refine .inl (.inl (s _ _ (fun z => ?_) h))
    rw [z, hd] at h
    exact n (by cases h; rfl)
  · refine .inl (.inr ⟨o, s _ _ (fun z => ?_) h⟩)
    rw [z, hd] at h
    cases h
  · exact .inr h

/-! ### lists of ints -/
theorem ints_get {ns : List Int} {j : Nat} {v : Int} (h : ns[j]? = some v) : (ns.map V.int)[j]? = some (.int v) := by
  rw [List.getElem?_map, h]
  rfl
theorem ints_got {ns : List Int} {j : Nat} {y : V} (h : (ns.map V.int)[j]? = some y) : ∃ v, ns[j]? = some v ∧ y = .int v := by
  rw [List.getElem?_map] at h
  cases e : ns[j]? with
  | none =>
    rw [e] at h
    cases h
  | some v =>
    rw [e] at h
    exact ⟨v, rfl, (Option.some.inj h).symm⟩
theorem ixN_nat {n j : Nat} (hj : j < n) : ixN n ((j : Nat) : Int) = some j := by
  unfold ixN
  rw [if_pos (Int.natCast_nonneg j), if_pos (by omega), Int.toNat_natCast]
theorem size1 {n : Int} (h0 : 0 ≤ n) (h1 : n ≤ 100000) : 1 * n.toNat ≤ sizeLine := Nat.le_trans (by omega : 1 * n.toNat ≤ 100000) (by decide)
def dInts (ns : List Int) : PyData := .list (ns.map PyData.int)
theorem dInts_all {K : PySem.W.Frag} {H : Hp} : ∀ ns : List Int, DpAll K H (ns.map V.int) (ns.map PyData.int)
  | [] => .nil
  | n :: r => .cons (.int n) (dInts_all r)
theorem dInts_dp {K : PySem.W.Frag} {H : Hp} {a : Addr} {ns : List Int} (h : SqL K H a (ns.map V.int)) : Dp K H (.ref a) (dInts ns) := .lst h (dInts_all ns)
theorem lay_ints : ∀ ns : List Int, PyData.canLayAll0 (ns.map PyData.int) = true
  | [] => rfl
  | n :: r => by
    have h := lay_ints r
    show (PyData.canLay0 (.int n) && PyData.canLayAll0 (r.map PyData.int)) = true
    rw [h]
    rfl
theorem depth_ints : ∀ ns : List Int, PyData.depthAll (ns.map PyData.int) = 0
  | [] => rfl
  | n :: r => by
    have h := depth_ints r
    show max (PyData.depth (.int n)) (PyData.depthAll (r.map PyData.int)) = 0
    rw [h]
    rfl
theorem dInts_shaped (ns : List Int) : SeqAt.shaped (dInts ns) = true := by
  have h1 : PyData.canLay0 (dInts ns) = true := lay_ints ns
  have h2 : PyData.depth (dInts ns) = PyData.depthAll (ns.map PyData.int) + 1 := rfl
  rw [depth_ints] at h2
  unfold SeqAt.shaped
  rw [h1, h2]
  rfl
theorem eqv_all : ∀ ns : List Int, PyData.eqvAll (ns.map PyData.int) (ns.map PyData.int) = true
  | [] => rfl
  | n :: r => by
    have h := eqv_all r
    show (PyData.eqv (.int n) (.int n) && PyData.eqvAll (r.map PyData.int) (r.map PyData.int)) = true
    rw [h]
    show ((n == n) && true) = true
    rw [beq_self_eq_true]
    rfl
theorem eqv_ints (ns : List Int) : PyData.eqv (dInts ns) (dInts ns) = true := eqv_all ns
/-- an if whose test is known -/
theorem if_no {c : Bool} {A B : Prop} (h : c = true) (q : B) : if (!c) = true then A else B := by
  rw [h]
  exact q
theorem if_yes {c : Bool} {A B : Prop} (h : c = true) (q : A) : if c = true then A else B := by
  rw [h]
  exact q
theorem if_not {c : Bool} {A B : Prop} (h : c = false) (q : B) : if c = true then A else B := by
  rw [h]
  exact q
theorem ty_int {K : PySem.W.Frag} {H : Hp} {i : Int} : TyX K H (.int i) (.type "int") := .base (.int i)
theorem ty_lst {K : PySem.W.Frag} {H : Hp} {a : Addr} {xs : List V} (h : H a = some (.lst xs)) : TyX K H (.ref a) (.type "list") := .base (.lst h)
/-- a list that stood where p was free stands when p's object is laid or changed -/
theorem SqL.upd0 {K : PySem.W.Frag} {H0 H : Hp} {a p : Addr} {xs : List V} {o : HO} (h0 : SqL K H0 a xs) (hp : H0 p = none) (h : SqL K H a xs) : SqL K (upd H p o) a xs := by
  rcases h0 with h0 | h0
  · have n : a ≠ p := by
      rcases h0 with h0 | ⟨u, h0⟩
      · exact ne_of_none h0 hp
      · exact ne_of_none h0 hp
    exact SqL.but h (But.upd (d := p)) (.inl n)
  · exact .inr h0
theorem rep_flat (n : Nat) (i : Int) : (List.replicate n [V.int i]).flatten = (List.replicate n i).map V.int := by
  induction n with
  | zero => rfl
  | succ n ih =>
    rw [List.replicate_succ, List.replicate_succ, List.flatten_cons, ih]
    rfl
/-- an instance that is made: what stood, stands -/
theorem made_same {H H' : Hp} {x dx : Addr} {u v : HO} (h1 : H x = none) (h2 : H dx = none) (b : But x (upd (upd H dx u) x v) H') : Same H H' := fun c o e => by
  have n1 : c ≠ x := ne_of_none e h1
  have n2 : c ≠ dx := ne_of_none e h2
  refine b c o n1 ?_
  rw [upd_ne n1, upd_ne n2]
  exact e
theorem made_free {H : Hp} {x dx l : Addr} {u v : HO} (h1 : H x = none) (h2 : H dx = none) (h : upd (upd H dx u) x v l = none) : H l = none := by
  cases q : H l with
  | none => rfl
  | some o =>
    have n1 : l ≠ x := ne_of_none q h1
    have n2 : l ≠ dx := ne_of_none q h2
    rw [upd_ne n1, upd_ne n2, q] at h
    cases h
/-- a list that stood where p was free stands whatever p's object becomes -/
theorem SqL.other {K : PySem.W.Frag} {H0 H H' : Hp} {a p : Addr} {xs : List V} (h0 : SqL K H0 a xs) (hp : H0 p = none) (h : SqL K H a xs) (s : But p H H') : SqL K H' a xs := by
  rcases h0 with h0 | h0
  · have n : a ≠ p := by
      rcases h0 with h0 | ⟨u, h0⟩
      · exact ne_of_none h0 hp
      · exact ne_of_none h0 hp
    exact SqL.but h s (.inl n)
  · exact .inr h0
end Sd

/-! the draws of a script: _law_cell, _law_dice, _law_off -/
namespace Sd
open PySem L2
theorem b01 (c : Bool) : -(2 ^ 64) < (if c = true then (1 : Int) else 0) ∧ (if c = true then (1 : Int) else 0) < 2 ^ 64 := by
  cases c with
  | true =>
    rw [if_pos rfl]
    decide
  | false =>
    rw [if_neg Bool.false_ne_true]
    decide
def spCell (K : PySem.W.Frag) : Sp := fun vs H Q _ => ∃ (a : Addr) (ns : List Int) (k : Int), vs = [.ref a, .int k] ∧ 0 ≤ k ∧ SqL K H a (ns.map V.int) ∧ ∀ v : Int, Q (.int v) H
/-- what the draws go on with stands at d: four things, the second one the script's list -/
def Dice (H : Hp) (d a : Addr) : Prop := ∃ n k g : Int, H d = some (.lst [.int n, .ref a, .int k, .int g])
theorem Dice.but {H H' : Hp} {d a e : Addr} (h : Dice H d a) (b : But e H H') (n : d ≠ e) : Dice H' d a := by
  obtain ⟨x, k, g, h⟩ := h
  exact ⟨x, k, g, b _ _ n h⟩
theorem Dice.same {H H' : Hp} {d a : Addr} (h : Dice H d a) (s : Same H H') : Dice H' d a := by
  obtain ⟨x, k, g, h⟩ := h
  exact ⟨x, k, g, s _ _ h⟩
theorem Dice.some {H : Hp} {d a : Addr} (h : Dice H d a) : ∃ u, H d = some u := by
  obtain ⟨x, k, g, h⟩ := h
  exact ⟨_, h⟩
theorem Dice.ne {H : Hp} {d a p : Addr} (h : Dice H d a) (n : H p = none) : d ≠ p := by
  obtain ⟨x, k, g, h⟩ := h
  exact ne_of_none h n
/-- the script stands, whatever the draws' list becomes -/
theorem Dice.seq {K : PySem.W.Frag} {H H' : Hp} {d a : Addr} {ns : List Int} (h : Dice H d a) (b : But d H H') (s : SqL K H a (ns.map V.int)) : SqL K H' a (ns.map V.int) := by
  obtain ⟨n, k, g, h⟩ := h
  refine Sd.SqL.keep s b h (fun e => ?_)
  cases ns with
  | nil => cases e
  | cons x r =>
    cases r with
    | nil => cases e
    | cons y r =>
      have e2 := (List.cons.inj (List.cons.inj e).2).1
      cases e2
theorem Dice.ne_ints {H : Hp} {d a l : Addr} {xs : List Int} (h : Dice H d a) (hl : H l = Option.some (.lst (xs.map V.int))) : l ≠ d := fun z => by
  obtain ⟨n, k, g, h⟩ := h
  rw [z, h] at hl
  have e := (HO.lst.inj (Option.some.inj hl))
  cases xs with
  | nil => cases e
  | cons x r =>
    cases r with
    | nil => cases e
    | cons y r => cases (List.cons.inj (List.cons.inj e).2).1
def spDice (K : PySem.W.Frag) : Sp := fun vs H Q _ => ∃ (a : Addr) (ns : List Int) (k : Int), vs = [.ref a, .int k] ∧ 0 ≤ k ∧ SqL K H a (ns.map V.int) ∧
  ∀ (p : Addr) (H' : Hp), H p = none → Same H H' → But p H H' → Dice H' p a → (∀ b, b ≠ p → H' b = H b) → Q (.ref p) H'
def spOff (K : PySem.W.Frag) : Sp := fun vs H Q _ => ∃ (d a : Addr) (ns : List Int) (m : Int), vs = [.ref d, .int m] ∧ Dice H d a ∧ SqL K H a (ns.map V.int) ∧ 0 < m ∧ m < 1073741824 ∧
  ∀ (r : Int) (H' : Hp), 0 ≤ r → r < m → Dice H' d a → (∀ b, b ≠ d → H' b = H b) → Q (.int r) H'
end Sd

/-! deeds, answers, the five things: plain words -/
namespace Sd
inductive Deed
  | one | count | set (n : Int) | look | add (n : Int) | sum | rais (n : Int) | top | give (n : Int) | take
  deriving DecidableEq
namespace Deed
/-- the number is one that a deed may have -/
def ok : Deed → Prop
  | set n => 0 ≤ n ∧ n ≤ 999 | add n => 0 ≤ n ∧ n ≤ 999 | rais n => 0 ≤ n ∧ n ≤ 999 | give n => 0 ≤ n ∧ n ≤ 999
  | _ => True
def most : Deed → Int → Int
  | one, _ => 1 | count, m => m | give _, m => m + 1 | take, m => 2 * m
  | look, m => m * (m + 1) | sum, m => m * (m + 1) | top, m => m * (m + 1)
  | set _, m => m * (m + 1) + 1 | add _, m => m * (m + 1) + 1 | rais _, m => m * (m + 1) + 1
def thing : Deed → Nat
  | one | count => 0
  | set _ | look => 1
  | add _ | sum => 2
  | rais _ | top => 3
  | give _ | take => 4
/-- it changes its thing by a put -/
def puts : Deed → Bool
  | one | set _ | add _ | rais _ | give _ => true
  | _ => false
/-- it tells of a thing without takes -/
def tells : Deed → Bool
  | count | look | sum | top => true
  | _ => false
end Deed
inductive Ans
  | non | int (n : Int) | view (cs : List Int)
  deriving DecidableEq
/-- the greatest of the list, 0 at the least -/
def top0 (l : List Int) : Int := l.foldl (fun a b => if b > a then b else a) 0
/-- the program's five things -/
structure St5 where
  ones : Int
  cells : List Int
  added : Int
  top : Int
  line : List Int
  deriving DecidableEq
def St5.first (m : Nat) : St5 := ⟨0, List.replicate m 0, 0, 0, []⟩
def St5.ans (s : St5) : Deed → Ans
  | .count => .int s.ones
  | .look => .view s.cells
  | .sum => .int s.added
  | .top => .int s.top
  | .take => match s.line with
    | [] => .non
    | g :: _ => .int g
  | _ => .non
def St5.behind (s : St5) (h : Nat) : Deed → St5
  | .one => { s with ones := s.ones + 1 }
  | .set n => { s with cells := s.cells.set h n }
  | .add n => { s with added := s.added + n }
  | .rais n => { s with top := if n > s.top then n else s.top }
  | .give n => { s with line := s.line ++ [n] }
  | .take => { s with line := s.line.drop 1 }
  | _ => s
/-- sizes that the rules want -/
structure St5.Ok (s : St5) (m : Nat) : Prop where
  cells : s.cells.length = m
  line : s.line.length ≤ 10000
end Sd

/-! deeds, and what tells of them -/
namespace Sd
open PySem L2
namespace Deed
def word : Deed → Str
  | one => "one" | count => "count" | set _ => "set" | look => "look" | add _ => "add" | sum => "sum" | rais _ => "raise" | top => "top" | give _ => "give" | take => "take"
def vals : Deed → List V
  | set n => [.str "set", .int n] | add n => [.str "add", .int n] | rais n => [.str "raise", .int n] | give n => [.str "give", .int n]
  | one => [.str "one"] | count => [.str "count"] | look => [.str "look"] | sum => [.str "sum"] | top => [.str "top"] | take => [.str "take"]
theorem at0 : ∀ d : Deed, atI d.vals (0 : Int) = some (.str d.word)
  | set _ | add _ | rais _ | give _ | one | count | look | sum | top | take => atI_nat (j := 0) rfl
end Deed
def words10 : List Str := ["one", "count", "set", "look", "add", "sum", "raise", "top", "give", "take"]
theorem word_of {w : Str} (h : w ∈ words10) : ∃ d : Deed, d.word = w := by
  simp only [words10, List.mem_cons, List.not_mem_nil, or_false] at h
  rcases h with rfl | rfl | rfl | rfl | rfl | rfl | rfl | rfl | rfl | rfl
  · exact ⟨.one, rfl⟩
  · exact ⟨.count, rfl⟩
  · exact ⟨.set 0, rfl⟩
  · exact ⟨.look, rfl⟩
  · exact ⟨.add 0, rfl⟩
  · exact ⟨.sum, rfl⟩
  · exact ⟨.rais 0, rfl⟩
  · exact ⟨.top, rfl⟩
  · exact ⟨.give 0, rfl⟩
  · exact ⟨.take, rfl⟩
theorem strs_got {ws : List Str} {j : Nat} {y : V} (h : (ws.map V.str)[j]? = some y) : ∃ v, ws[j]? = some v ∧ y = .str v := by
  rw [List.getElem?_map] at h
  cases e : ws[j]? with
  | none =>
    rw [e] at h
    cases h
  | some v =>
    rw [e] at h
    exact ⟨v, rfl, (Option.some.inj h).symm⟩
def spLDeed (K : PySem.W.Frag) : Sp := fun vs H Q _ => ∃ (d a : Addr) (ns : List Int) (w : Str), vs = [.ref d, .str w] ∧ w ∈ words10 ∧ Dice H d a ∧ SqL K H a (ns.map V.int) ∧
  ∀ (p : Addr) (H' : Hp) (dd : Deed), dd.word = w → dd.ok → H p = none → H' p = some (.tup dd.vals) → Dice H' d a → But d H H' → Q (.ref p) H'
theorem two_at {n m : Int} {r : Int} (h0 : 0 ≤ r) (h1 : r < 2) : ∃ z, atI [V.int n, V.int m] r = some (V.int z) ∧ (z = n ∨ z = m) := by
  have h : r = 0 ∨ r = 1 := by omega
  rcases h with rfl | rfl
  · exact ⟨n, atI_nat (j := 0) rfl, .inl rfl⟩
  · exact ⟨m, atI_nat (j := 1) rfl, .inr rfl⟩
end Sd

namespace K06
open PySem L2
def top (i : Nat) : Stmt := PySem.Challenge.pw_stillhands_k06_most_steps.main.body.getD i (.Pass ⟨0, 0, 0, 0⟩)
abbrev s_most_steps : Stmt := top 1
abbrev s_l_cell : Stmt := top 3
abbrev s_l_dice : Stmt := top 4
abbrev s_l_off : Stmt := top 5
abbrev s_l_deed : Stmt := top 6
abbrev s_l_plans : Stmt := top 7
abbrev s_l_most : Stmt := top 8
abbrev s_law : Stmt := top 9
structure Dr (K : PySem.W.Frag) (mg : Str → Option Value) : Prop where
  abs : mg "abs" = none
  len : mg "len" = none
  max : mg "max" = none
  int : mg "int" = none
structure Txt (K : PySem.W.Frag) (mg : Str → Option Value) : Prop extends Dr K mg where
  isinstance : mg "isinstance" = none
  bool : mg "bool" = none
def spMost : Sp := fun vs H Q _ => ∃ (p : Addr) (dd : Sd.Deed) (m : Int), vs = [.ref p, .int m] ∧ H p = some (.tup dd.vals) ∧ 0 ≤ m ∧ m ≤ 100 ∧ ∀ H', Same H H' → Q (.int (dd.most m)) H'
def spLMost : Sp := fun vs H Q _ => ∃ (dd : Sd.Deed) (m : Int), vs = [.str dd.word, .int m] ∧ 0 ≤ m ∧ m ≤ 100 ∧ ∀ H', Same H H' → Q (.int (dd.most m)) H'
def spLaw (K : PySem.W.Frag) : Sp := fun vs H Q _ => ∃ (a : Addr) (ns : List Int), vs = [.ref a] ∧ SqL K H a (ns.map V.int) ∧ ns.length ≤ 63 ∧ ∀ H', Q (.bl true) H'
/-! a cell of the script -/
section
variable {P : Program} {w : World} {K : PySem.W.Frag} {mg : Str → Option Value} {base : Heap}
abbrev N_l_cell : List Str := ["_law_script", "_law_k"]
theorem sc_l_cell : FnScope N_l_cell ["_law_script", "_law_k"] (defScope s_l_cell) := ⟨rfl, rfl, rfl, by decide +kernel, rfl, by decide +kernel, by decide +kernel⟩
theorem ok_l_cell {f : Addr} {fd : FuncData} (F : Fun K "_law_cell" "_law_cell" s_l_cell f fd) (T : Dr K mg) : FnOk P w K mg base CX0 1 f fd ["_law_script", "_law_k"] (Sd.spCell K) := by
  refine F.ok sc_l_cell (fun vs H Q E h => ?_) (fun cdv A outer s H vs Q E hr h => ?_)
  · obtain ⟨a, ns, k, rfl, _⟩ := h
    rfl
  · obtain ⟨a, ns, k, rfl, h0, hS, q⟩ := h
    refine ⟨_, (pss_cons (ps_if (pt_cmpR op_lt (pv 1) (pe_callB call_len_seq (by rfl) T.len (by decide +kernel) (pa_cons (pv 0) pa_nil)) (nomark _))
      (pss_one (ps_ret (pe_ix ix_list (pv 0) (pv 1) (fun _ _ => rfl))))
      pss_nil)
      (pss_one (ps_ret pe_int))), ?_⟩
    obtain ⟨m, rfl⟩ := Int.eq_ofNat_of_zero_le h0
    refine ⟨_, rfl, _, rfl, a, _, rfl, .inl hS, _, _, rfl, rfl, _, rfl, ?_⟩
    refine ite2 (fun c => ?_) (fun c => ?_)
    · have hm : m < ns.length := by
        have c' := of_decide_eq_true c
        rw [List.length_map] at c'
        omega
      exact ⟨_, rfl, _, rfl, a, _, _, _, rfl, rfl, hS, atI_nat (Sd.ints_get (List.getElem?_eq_getElem hm)), q _⟩
    · exact q 0
end
/-! the defs of the draws -/
section
variable {P : Program} {w : World} {K : PySem.W.Frag} {mg : Str → Option Value} {base : Heap}
abbrev N_l_dice : List Str := ["_law_script", "_law_k", "_law_cell_here"]
theorem sc_l_dice : FnScope N_l_dice ["_law_script", "_law_k"] (defScope s_l_dice) := ⟨rfl, rfl, rfl, by decide +kernel, rfl, by decide +kernel, by decide +kernel⟩
theorem ok_l_dice {f : Addr} {fd : FuncData} (F : Fun K "_law_dice" "_law_dice" s_l_dice f fd) (T : Dr K mg) (C_l_cell : Sd.Cal P w K mg base CX0 1 "_law_cell" ["_law_script", "_law_k"] (Sd.spCell K)) :
    FnOk P w K mg base CX0 2 f fd ["_law_script", "_law_k"] (Sd.spDice K) := by
  refine F.ok sc_l_dice (fun vs H Q E h => ?_) (fun cdv A outer s H vs Q E hr h => ?_)
  · obtain ⟨a, ns, k, rfl, _⟩ := h
    rfl
  · obtain ⟨a, ns, k, rfl, h0, hS, q⟩ := h
    refine ⟨_, (pss_cons (ps_set (i := 2) sc_l_dice.nd rfl (Or.inl rfl) (pe_callB call_abs (by rfl) T.abs (by decide +kernel) (pa_cons (Sd.pe_fn C_l_cell (hr.mono (by decide)) pass0 (pa_cons (pv 0) (pa_cons (pv 1) pa_nil))) pa_nil)))
      (pss_one (ps_ret (pe_lst (pa_cons (pe_op op_mod (pv 2) pe_int) (pa_cons (pv 0) (pa_cons (pe_op op_add (pv 1) pe_int) (pa_cons (pe_op op_mul (pe_callTy call_int1 (by rfl) T.int (by decide +kernel) (pa_cons (pe_cmpR op_ge (pv 2) (pe_op op_pow pe_int pe_int) (nomark _)) pa_nil)) (pv 2)) pa_nil)))))))), ?_⟩
    refine ⟨_, rfl, _, rfl, a, ns, k, rfl, h0, hS, fun v => ⟨v, rfl, ?_⟩⟩
    refine ⟨_, rfl, _, _, rfl, rfl, (by show (0 : Int) < 2147483647; decide), _, rfl, _, rfl, _, _, rfl, rfl, ?_⟩
    refine ⟨_, rfl, _, _, rfl, rfl, ⟨by decide, by decide, by decide⟩, _, _, rfl, rfl, .inr ⟨_, rfl, ?_⟩⟩
    refine ⟨_, rfl, _, _, rfl, rfl, .inl ?_, (by show 4 ≤ sizeLine; decide), fun p hp => ?_⟩
    · exact Sd.b01 _
    · exact q p _ hp (Sd.Same.new hp) Sd.But.upd ⟨_, _, _, upd_same⟩ fun b n => upd_ne n
abbrev N_l_off : List Str := ["_law_d", "_law_most_here", "_law_found", "_law_more"]
theorem sc_l_off : FnScope N_l_off ["_law_d", "_law_most_here"] (defScope s_l_off) := ⟨rfl, rfl, rfl, by decide +kernel, rfl, by decide +kernel, by decide +kernel⟩
theorem ok_l_off {f : Addr} {fd : FuncData} (F : Fun K "_law_off" "_law_off" s_l_off f fd) (T : Dr K mg) (C_l_cell : Sd.Cal P w K mg base CX0 1 "_law_cell" ["_law_script", "_law_k"] (Sd.spCell K)) :
    FnOk P w K mg base CX0 2 f fd ["_law_d", "_law_most_here"] (Sd.spOff K) := by
  refine F.ok sc_l_off (fun vs H Q E h => ?_) (fun cdv A outer s H vs Q E hr h => ?_)
  · obtain ⟨d, a, ns, m, rfl, _⟩ := h
    rfl
  · obtain ⟨d, a, ns, m, rfl, ⟨n, k, g, hd⟩, hS, hm0, hm1, q⟩ := h
    refine ⟨_, (pss_cons (ps_if (pt_cmpR op_gt (pe_ix ix_list (pv 0) pe_int (fun _ _ => rfl)) pe_int (nomark _))
      (pss_cons (ps_set (i := 2) sc_l_off.nd rfl (Or.inl rfl) (pe_op op_mod (pe_ix ix_list (pv 0) pe_int (fun _ _ => rfl)) (pv 1)))
      (pss_cons (ps_asg (pe_op op_fdiv (pe_ix ix_list (pv 0) pe_int (fun _ _ => rfl)) (pv 1)) (pg_sub (pv 0) pe_int set_list))
      (pss_one (ps_ret (pv 2)))))
      pss_nil)
      (pss_cons (ps_set (i := 3) sc_l_off.nd rfl (Or.inl rfl) (pe_callB call_abs (by rfl) T.abs (by decide +kernel) (pa_cons (Sd.pe_fn C_l_cell (hr.mono (by decide)) pass0 (pa_cons (pe_ix ix_list (pv 0) pe_int (fun _ _ => rfl)) (pa_cons (pe_op op_mod (pe_ix ix_list (pv 0) pe_int (fun _ _ => rfl)) (pe_callB (call_max2 rfl) (by rfl) T.max (by decide +kernel) (pa_cons pe_int (pa_cons (pe_callB call_len_seq (by rfl) T.len (by decide +kernel) (pa_cons (pe_ix ix_list (pv 0) pe_int (fun _ _ => rfl)) pa_nil)) pa_nil)))) pa_nil))) pa_nil)))
      (pss_cons (ps_asg (pe_op op_add (pe_ix ix_list (pv 0) pe_int (fun _ _ => rfl)) pe_int) (pg_sub (pv 0) pe_int set_list))
      (pss_cons (ps_asg (pe_op op_mod (pe_op op_add (pe_op op_add (pe_op op_mul (pe_ix ix_list (pv 0) pe_int (fun _ _ => rfl)) pe_int) pe_int) (pv 3)) pe_int) (pg_sub (pv 0) pe_int set_list))
      (pss_one (ps_ret (pe_op op_mod (pe_op op_fdiv (pe_ix ix_list (pv 0) pe_int (fun _ _ => rfl)) pe_int) (pv 1)))))))), ?_⟩
    have at0 : ∀ x y z t : V, atI [x, y, z, t] (0 : Int) = some x := fun _ _ _ _ => atI_nat (j := 0) rfl
    have at1 : ∀ x y z t : V, atI [x, y, z, t] (1 : Int) = some y := fun _ _ _ _ => atI_nat (j := 1) rfl
    have at2 : ∀ x y z t : V, atI [x, y, z, t] (2 : Int) = some z := fun _ _ _ _ => atI_nat (j := 2) rfl
    have at3 : ∀ x y z t : V, atI [x, y, z, t] (3 : Int) = some t := fun _ _ _ _ => atI_nat (j := 3) rfl
    refine ⟨_, rfl, d, _, _, _, rfl, rfl, SqL.of hd, at3 _ _ _ _, _, _, rfl, rfl, _, rfl, ?_⟩
    refine ite2 (fun c => ?_) (fun c => ?_)
    · refine ⟨_, rfl, d, _, _, _, rfl, rfl, SqL.of hd, at3 _ _ _ _, _, rfl, _, _, rfl, rfl, hm0, ?_⟩
      refine ⟨_, rfl, d, _, _, _, rfl, rfl, SqL.of hd, at3 _ _ _ _, _, rfl, _, _, rfl, rfl, ⟨hm0, hm1⟩, _, rfl, d, _, _, 3, rfl, rfl, hd, rfl, ?_⟩
      exact ⟨_, rfl, q _ _ (Int.emod_nonneg _ (by omega)) (Int.emod_lt_of_pos _ hm0) ⟨n, k, _, upd_same⟩ fun b e => upd_ne e⟩
    · refine ⟨_, rfl, d, _, _, _, rfl, rfl, SqL.of hd, at1 _ _ _ _, _, rfl, d, _, _, _, rfl, rfl, SqL.of hd, at2 _ _ _ _, ?_⟩
      refine ⟨_, rfl, d, _, _, _, rfl, rfl, SqL.of hd, at1 _ _ _ _, a, _, rfl, .inl hS, _, _, rfl, ?_⟩
      have hM : (0 : Int) < (if (((ns.map V.int).length : Nat) : Int) > 1 then (((ns.map V.int).length : Nat) : Int) else 1) := by
        split <;> omega
      refine ⟨_, _, rfl, rfl, hM, ?_⟩
      refine ⟨a, ns, _, rfl, Int.emod_nonneg _ (by omega), hS, fun v => ⟨v, rfl, ?_⟩⟩
      refine ⟨_, rfl, d, _, _, _, rfl, rfl, SqL.of hd, at2 _ _ _ _, _, _, rfl, rfl, _, rfl, d, _, _, 2, rfl, rfl, hd, rfl, ?_⟩
      refine ⟨_, rfl, d, _, _, _, rfl, rfl, SqL.of upd_same, at0 _ _ _ _, _, _, rfl, rfl, .inr ⟨by decide, by decide⟩, _, _, rfl, rfl, ?_⟩
      refine ⟨_, rfl, _, _, rfl, rfl, _, _, rfl, rfl, (by show (0 : Int) < 2147483647; decide), _, rfl, d, _, _, 0, rfl, rfl, upd_same, rfl, ?_⟩
      refine ⟨_, rfl, d, _, _, _, rfl, rfl, SqL.of upd_same, at0 _ _ _ _, _, _, rfl, rfl, ⟨by decide, by decide⟩, _, rfl, _, _, rfl, rfl, hm0, ?_⟩
      exact q _ _ (Int.emod_nonneg _ (by omega)) (Int.emod_lt_of_pos _ hm0) ⟨_, _, _, upd_same⟩ fun b e => by rw [upd_ne e, upd_ne e]
end

section
variable {P : Program} {w : World} {K : PySem.W.Frag} {mg : Str → Option Value} {base : Heap}
abbrev N_l_deed : List Str := ["_law_d", "_law_word"]
theorem sc_l_deed : FnScope N_l_deed ["_law_d", "_law_word"] (defScope s_l_deed) := ⟨rfl, rfl, rfl, by decide +kernel, rfl, by decide +kernel, by decide +kernel⟩
theorem ok_l_deed {f : Addr} {fd : FuncData} (F : Fun K "_law_deed" "_law_deed" s_l_deed f fd) (T : Dr K mg)
    (C_l_off : Sd.Cal P w K mg base CX0 2 "_law_off" ["_law_d", "_law_most_here"] (Sd.spOff K))
    : FnOk P w K mg base CX0 3 f fd ["_law_d", "_law_word"] (Sd.spLDeed K) := by
  refine F.ok sc_l_deed (fun vs H Q E h => ?_) (fun cdv A outer s H vs Q E hr h => ?_)
  · obtain ⟨d, a, ns, w, rfl, _⟩ := h
    rfl
  · obtain ⟨d, a, ns, w, rfl, hw, D, hS, q⟩ := h
    refine ⟨_, (pss_cons (ps_if (pt_cmpR op_in_seq (pv 1) (pe_lst (pa_cons pe_str (pa_cons pe_str (pa_cons pe_str (pa_cons pe_str pa_nil))))) (by rfl))
      (pss_one (ps_ret (pe_tup (pa_cons (pv 1) (pa_cons (pe_ix ix_list (pe_lst (pa_cons (Sd.pe_fn C_l_off (hr.mono (by decide)) pass0 (pa_cons (pv 0) (pa_cons pe_int pa_nil))) (pa_cons (Sd.pe_fn C_l_off (hr.mono (by decide)) pass0 (pa_cons (pv 0) (pa_cons pe_int pa_nil))) pa_nil))) (Sd.pe_fn C_l_off (hr.mono (by decide)) pass0 (pa_cons (pv 0) (pa_cons pe_int pa_nil))) (fun _ _ => rfl)) pa_nil)))))
      pss_nil)
      (pss_one (ps_ret (pe_tup (pa_cons (pv 1) pa_nil))))), ?_⟩
    refine ⟨_, rfl, (by show 4 ≤ sizeLine; decide), fun p hp => ⟨p, _, rfl, .inl (SqL.of upd_same), rfl, rfl, _, rfl, ?_⟩⟩
    have D1 : Sd.Dice (upd H p (.lst [.str "set", .str "add", .str "raise", .str "give"])) d a := D.same (Sd.Same.new hp)
    have S1 : SqL K (upd H p (.lst [.str "set", .str "add", .str "raise", .str "give"])) a (ns.map V.int) := (Sd.Same.new hp).seq hS
    have s1 : Same H (upd H p (.lst [.str "set", .str "add", .str "raise", .str "give"])) := Sd.Same.new hp
    generalize upd H p (.lst [.str "set", .str "add", .str "raise", .str "give"]) = H1 at D1 S1 s1
    obtain ⟨dd, rfl⟩ := Sd.word_of hw
    cases dd
    all_goals first
      | refine ⟨_, rfl, (by show 1 ≤ sizeLine; decide), fun t ht => ?_⟩
        exact q t _ _ rfl trivial (s1.free ht) upd_same (D1.same (Sd.Same.new ht)) (Sd.Same.but (s1.trans (Sd.Same.new ht)))
      | refine ⟨_, rfl, _, rfl, d, a, ns, 1000, rfl, D1, S1, by decide, by decide, fun r1 H2 r10 r11 D2 o2 => ?_⟩
        have b2 : Sd.But d H1 H2 := fun c u n e => by rw [o2 c n]; exact e
        have S2 := D1.seq b2 S1
        refine ⟨_, rfl, d, a, ns, 4, rfl, D2, S2, by decide, by decide, fun r2 H3 r20 r21 D3 o3 => ?_⟩
        have b3 : Sd.But d H2 H3 := fun c u n e => by rw [o3 c n]; exact e
        have S3 := D2.seq b3 S2
        refine ⟨(by show 2 ≤ sizeLine; decide), fun l hl => ?_⟩
        have D4 : Sd.Dice (upd H3 l (.lst [.int r1, .int r2])) d a := D3.same (Sd.Same.new hl)
        refine ⟨_, rfl, d, a, ns, 2, rfl, D4, (Sd.Same.new hl).seq S3, by decide, by decide, fun r3 H5 r30 r31 D5 o5 => ?_⟩
        have nl : l ≠ d := fun z => by
          obtain ⟨_, hd⟩ := D3.some
          rw [z, hd] at hl
          cases hl
        have hl5 : H5 l = some (.lst [.int r1, .int r2]) := by rw [o5 l nl]; exact upd_same
        obtain ⟨z, hz, hzz⟩ := Sd.two_at (n := r1) (m := r2) r30 r31
        refine ⟨l, _, _, _, rfl, rfl, SqL.of hl5, hz, ?_⟩
        refine ⟨(by show 2 ≤ sizeLine; decide), fun t ht => ?_⟩
        have b5 : Sd.But d (upd H3 l (.lst [.int r1, .int r2])) H5 := fun c u n e => by rw [o5 c n]; exact e
        have bt : ∀ o, Sd.But d H (upd H5 t o) := fun o => ((((Sd.Same.but (d := d) s1).trans b2).trans b3).trans (Sd.Same.but (Sd.Same.new hl))).trans (b5.trans (Sd.Same.but (Sd.Same.new ht)))
        have hf : H t = none := by
          cases e : H t with
          | none => rfl
          | some u =>
            have n : t ≠ d := fun z => by
              obtain ⟨_, hd⟩ := D5.some
              rw [z, hd] at ht
              cases ht
            have e5 := (((((Sd.Same.but (d := d) s1).trans b2).trans b3).trans (Sd.Same.but (Sd.Same.new hl))).trans b5) t u n e
            rw [ht] at e5
            cases e5
        have ok9 : 0 ≤ z ∧ z ≤ 999 := by
          rcases hzz with rfl | rfl <;> omega
        first
          | exact q t _ (.set z) rfl ok9 hf upd_same (D5.same (Sd.Same.new ht)) (bt _)
          | exact q t _ (.add z) rfl ok9 hf upd_same (D5.same (Sd.Same.new ht)) (bt _)
          | exact q t _ (.rais z) rfl ok9 hf upd_same (D5.same (Sd.Same.new ht)) (bt _)
          | exact q t _ (.give z) rfl ok9 hf upd_same (D5.same (Sd.Same.new ht)) (bt _)
end

section
variable {P : Program} {w : World} {K : PySem.W.Frag} {mg : Str → Option Value} {base : Heap}
abbrev N_most_steps : List Str := ["deed", "many", "word", "scan"]
theorem sc_most_steps : FnScope N_most_steps ["deed", "many"] (defScope s_most_steps) := ⟨rfl, rfl, rfl, by decide +kernel, rfl, by decide +kernel, by decide +kernel⟩
theorem ok_most_steps {f : Addr} {fd : FuncData} (F : Fun K "most_steps" "most_steps" s_most_steps f fd) (T : (Txt K mg))
    : FnOk P w K mg base CX0 1 f fd ["deed", "many"] (spMost) := by
  refine F.ok sc_most_steps (fun vs H Q E h => ?_) (fun cdv A outer s H vs Q E hr h => ?_)
  · obtain ⟨p, dd, m, rfl, _⟩ := h
    rfl
  · obtain ⟨p, dd, m, rfl, hp, h0, h1, q⟩ := h
    refine ⟨_, (pss_cons (ps_set (i := 2) sc_most_steps.nd rfl (Or.inl rfl) (pe_ix ix_tup (pv 0) pe_int (fun _ _ => rfl)))
      (pss_cons (ps_if (pt_cmpR op_eq (pv 2) pe_str (nomark _))
      (pss_one (ps_ret pe_int))
      pss_nil)
      (pss_cons (ps_if (pt_cmpR op_eq (pv 2) pe_str (nomark _))
      (pss_one (ps_ret (pv 1)))
      pss_nil)
      (pss_cons (ps_if (pt_cmpR op_eq (pv 2) pe_str (nomark _))
      (pss_one (ps_ret (pe_op op_add (pv 1) pe_int)))
      pss_nil)
      (pss_cons (ps_if (pt_cmpR op_eq (pv 2) pe_str (nomark _))
      (pss_one (ps_ret (pe_op op_mul pe_int (pv 1))))
      pss_nil)
      (pss_cons (ps_set (i := 3) sc_most_steps.nd rfl (Or.inl rfl) (pe_op op_mul (pv 1) (pe_op op_add (pv 1) pe_int)))
      (pss_cons (ps_if (pt_cmpR op_in_seq (pv 2) (pe_tup (pa_cons pe_str (pa_cons pe_str (pa_cons pe_str pa_nil)))) (by rfl))
      (pss_one (ps_ret (pv 3)))
      pss_nil)
      (pss_one (ps_ret (pe_op op_add (pv 3) pe_int)))))))))), ?_⟩
    refine ⟨_, rfl, p, _, _, _, rfl, rfl, SqT.of hp, dd.at0, ?_⟩
    have fin : ∀ z : Int, dd.most m = z → ∀ H', Same H H' → Q (.int z) H' := fun z e => e ▸ q
    have hmm : m * (m + 1) = m * (m + 1) := rfl
    cases dd
    case one => exact ⟨_, rfl, rfl, _, rfl, q _ (Same.refl _)⟩
    case count => exact ⟨_, rfl, rfl, _, rfl, _, rfl, rfl, _, rfl, _, rfl, q _ (Same.refl _)⟩
    case give n => exact ⟨_, rfl, rfl, _, rfl, _, rfl, rfl, _, rfl, _, rfl, rfl, _, rfl, _, rfl, _, _, rfl, rfl, q _ (Same.refl _)⟩
    case take => exact ⟨_, rfl, rfl, _, rfl, _, rfl, rfl, _, rfl, _, rfl, rfl, _, rfl, _, rfl, rfl, _, rfl, _, rfl, _, _, rfl, rfl, .inl ⟨by decide, by decide⟩, q _ (Same.refl _)⟩
    all_goals
      refine ⟨_, rfl, rfl, _, rfl, _, rfl, rfl, _, rfl, _, rfl, rfl, _, rfl, _, rfl, rfl, _, rfl, _, rfl, _, rfl, _, _, rfl, rfl, _, _, rfl, rfl, .inl ⟨by omega, by omega⟩, ?_⟩
      refine ⟨_, rfl, (by show 3 ≤ sizeLine; decide), fun t ht => ⟨t, _, rfl, .inr (SqT.of upd_same), rfl, rfl, _, rfl, ?_⟩⟩
      first
        | exact ⟨_, rfl, q _ (Sd.Same.new ht)⟩
        | exact ⟨_, rfl, _, _, rfl, rfl, q _ (Sd.Same.new ht)⟩
abbrev N_l_most : List Str := ["_law_word", "_law_many"]
theorem sc_l_most : FnScope N_l_most ["_law_word", "_law_many"] (defScope s_l_most) := ⟨rfl, rfl, rfl, by decide +kernel, rfl, by decide +kernel, by decide +kernel⟩
theorem ok_l_most {f : Addr} {fd : FuncData} (F : Fun K "_law_most" "_law_most" s_l_most f fd) (T : (Txt K mg))
    : FnOk P w K mg base CX0 1 f fd ["_law_word", "_law_many"] (spLMost) := by
  refine F.ok sc_l_most (fun vs H Q E h => ?_) (fun cdv A outer s H vs Q E hr h => ?_)
  · obtain ⟨dd, m, rfl, _⟩ := h
    rfl
  · obtain ⟨dd, m, rfl, h0, h1, q⟩ := h
    refine ⟨_, (pss_cons (ps_if (pt_cmpR op_in_seq (pv 0) (pe_lst (pa_cons pe_str (pa_cons pe_str (pa_cons pe_str pa_nil)))) (by rfl))
      (pss_one (ps_ret (pe_op op_add (pe_op op_mul (pv 1) (pv 1)) (pv 1))))
      pss_nil)
      (pss_cons (ps_if (pt_cmpR op_in_seq (pv 0) (pe_lst (pa_cons pe_str (pa_cons pe_str (pa_cons pe_str pa_nil)))) (by rfl))
      (pss_one (ps_ret (pe_op op_add (pe_op op_add (pe_op op_mul (pv 1) (pv 1)) (pv 1)) pe_int)))
      pss_nil)
      (pss_one (ps_ret (pe_dget (hu_of hr) (pe_disp (pps_cons pe_str pe_int (pps_cons pe_str (pv 1) (pps_cons pe_str (pe_op op_add (pv 1) pe_int) (pps_cons pe_str (pe_op op_add (pv 1) (pv 1)) pps_nil)))) (by rfl) (by rfl) (fun z => by cases z) (by decide)) (pv 0) (fun _ _ => rfl)))))), ?_⟩
    refine ⟨_, rfl, (by show 3 ≤ sizeLine; decide), fun t ht => ⟨t, _, rfl, .inl (SqL.of upd_same), rfl, rfl, _, rfl, ?_⟩⟩
    have s1 : Same H (upd H t (.lst [.str "look", .str "sum", .str "top"])) := Sd.Same.new ht
    generalize upd H t (.lst [.str "look", .str "sum", .str "top"]) = H1 at s1
    have e1 : m * m + m = m * (m + 1) := by rw [Int.mul_add, Int.mul_one]
    have q1 : ∀ z : Int, dd.most m = z → ∀ H', Same H1 H' → Q (.int z) H' := fun z e H' s => e ▸ q H' (s1.trans s)
    have sqr : ∀ z : Int, z = m * (m + 1) → z = m * m + m := fun z e => e.trans e1.symm
    cases dd
    case look => exact ⟨_, rfl, _, rfl, _, _, rfl, rfl, .inl ⟨by omega, by omega⟩, _, rfl, _, _, rfl, rfl, q1 _ e1.symm _ (Same.refl _)⟩
    case sum => exact ⟨_, rfl, _, rfl, _, _, rfl, rfl, .inl ⟨by omega, by omega⟩, _, rfl, _, _, rfl, rfl, q1 _ e1.symm _ (Same.refl _)⟩
    case top => exact ⟨_, rfl, _, rfl, _, _, rfl, rfl, .inl ⟨by omega, by omega⟩, _, rfl, _, _, rfl, rfl, q1 _ e1.symm _ (Same.refl _)⟩
    case set n =>
      refine ⟨_, rfl, (by show 3 ≤ sizeLine; decide), fun u hu => ⟨u, _, rfl, .inl (SqL.of upd_same), rfl, rfl, _, rfl, ?_⟩⟩
      exact ⟨_, rfl, _, rfl, _, _, rfl, rfl, .inl ⟨by omega, by omega⟩, _, rfl, _, _, rfl, rfl, _, _, rfl, rfl, q1 _ (by rw [e1]; rfl) _ (Sd.Same.new hu)⟩
    case add n =>
      refine ⟨_, rfl, (by show 3 ≤ sizeLine; decide), fun u hu => ⟨u, _, rfl, .inl (SqL.of upd_same), rfl, rfl, _, rfl, ?_⟩⟩
      exact ⟨_, rfl, _, rfl, _, _, rfl, rfl, .inl ⟨by omega, by omega⟩, _, rfl, _, _, rfl, rfl, _, _, rfl, rfl, q1 _ (by rw [e1]; rfl) _ (Sd.Same.new hu)⟩
    case rais n =>
      refine ⟨_, rfl, (by show 3 ≤ sizeLine; decide), fun u hu => ⟨u, _, rfl, .inl (SqL.of upd_same), rfl, rfl, _, rfl, ?_⟩⟩
      exact ⟨_, rfl, _, rfl, _, _, rfl, rfl, .inl ⟨by omega, by omega⟩, _, rfl, _, _, rfl, rfl, _, _, rfl, rfl, q1 _ (by rw [e1]; rfl) _ (Sd.Same.new hu)⟩
    all_goals
      refine ⟨_, rfl, (by show 3 ≤ sizeLine; decide), fun u hu => ⟨u, _, rfl, .inl (SqL.of upd_same), rfl, rfl, _, rfl, ?_⟩⟩
      refine fun v hv => ?_
      refine ⟨_, rfl, _, rfl, _, _, rfl, rfl, _, rfl, _, rfl, _, _, rfl, rfl, ?_⟩
      refine ⟨upd_same, [(Sum.inr "one", .int 1), (Sum.inr "count", .int m), (Sum.inr "give", .int (m + 1)), (Sum.inr "take", .int (m + m))], rfl, (by show 4 ≤ 15; decide), ?_⟩
      refine ⟨_, rfl, v, _, rfl, DGet.k (k := Sum.inr _) upd_same, ?_⟩
      refine q1 _ ?_ _ ((Sd.Same.new hu).trans (Sd.Same.new2 hv))
      first
        | rfl
        | (show 2 * m = m + m; omega)
abbrev N_law : List Str := ["_law_script", "_law_many", "_law_d", "_law_word", "_law_found"]
theorem sc_law : FnScope N_law ["_law_script"] (defScope s_law) := ⟨rfl, rfl, rfl, by decide +kernel, rfl, by decide +kernel, by decide +kernel⟩
theorem ok_law {f : Addr} {fd : FuncData} (F : Fun K "law" "law" s_law f fd) (T : (Txt K mg))
    (C_l_cell : Sd.Cal P w K mg base CX0 1 "_law_cell" ["_law_script", "_law_k"] (Sd.spCell K))
    (C_l_dice : Sd.Cal P w K mg base CX0 2 "_law_dice" ["_law_script", "_law_k"] (Sd.spDice K))
    (C_l_deed : Sd.Cal P w K mg base CX0 3 "_law_deed" ["_law_d", "_law_word"] (Sd.spLDeed K))
    (C_l_most : Sd.Cal P w K mg base CX0 1 "_law_most" ["_law_word", "_law_many"] (spLMost))
    (C_most_steps : Sd.Cal P w K mg base CX0 1 "most_steps" ["deed", "many"] (spMost))
    : FnOk P w K mg base CX0 4 f fd ["_law_script"] (spLaw K) := by
  refine F.ok sc_law (fun vs H Q E h => ?_) (fun cdv A outer s H vs Q E hr h => ?_)
  · obtain ⟨a, ns, rfl, _⟩ := h
    rfl
  · obtain ⟨a, ns, rfl, hS, hlen, q⟩ := h
    refine ⟨_, (pss_cons (ps_set (i := 1) sc_law.nd rfl (Or.inl rfl) (pe_op op_add pe_int (pe_op op_mod (pe_callB call_abs (by rfl) T.abs (by decide +kernel) (pa_cons (Sd.pe_fn C_l_cell (hr.mono (by decide)) pass0 (pa_cons (pv 0) (pa_cons pe_int pa_nil))) pa_nil)) pe_int)))
      (pss_cons (ps_set (i := 2) sc_law.nd rfl (Or.inl rfl) (Sd.pe_fn C_l_dice (hr.mono (by decide)) pass0 (pa_cons (pv 0) (pa_cons pe_int pa_nil))))
      (pss_cons (ps_for PassesOwn.never rfl (pi_list (pe_lst (pa_cons pe_str (pa_cons pe_str (pa_cons pe_str (pa_cons pe_str (pa_cons pe_str (pa_cons pe_str (pa_cons pe_str (pa_cons pe_str (pa_cons pe_str (pa_cons pe_str pa_nil)))))))))))) (pg_name (i := 3) sc_law.nd rfl (Or.inl rfl))
      (pss_cons (ps_set (i := 4) sc_law.nd rfl (Or.inl rfl) (Sd.pe_fn C_most_steps (hr.mono (by decide)) pass0 (pa_cons (Sd.pe_fn C_l_deed (hr.mono (by decide)) pass0 (pa_cons (pv 2) (pa_cons (pv 3) pa_nil))) (pa_cons (pv 1) pa_nil))))
      (pss_one (ps_if (PW.pt (pw_or (pt_val (pe_callB call_isi (by rfl) T.isinstance (by decide +kernel) (pa_cons (pv 4) (pa_cons (pe_bltn (v := .ty "bool") (u := .type "bool") (by rfl) T.bool (by decide +kernel) rfl) pa_nil)))) (pw_or (pt_not (pt_val (pe_callB call_isi (by rfl) T.isinstance (by decide +kernel) (pa_cons (pv 4) (pa_cons (pe_bltn (v := .ty "int") (u := .type "int") (by rfl) T.int (by decide +kernel) rfl) pa_nil))))) (pw_or1 (pt_cmpR op_ne (pv 4) (Sd.pe_fn C_l_most (hr.mono (by decide)) pass0 (pa_cons (pv 3) (pa_cons (pv 1) pa_nil))) (nomark _))))))
      (pss_one (ps_ret pe_bl))
      pss_nil))))
      (pss_one (ps_ret pe_bl))))), ?_⟩
    refine ⟨_, rfl, a, ns, 0, rfl, by decide, hS, fun v => ⟨v, rfl, _, _, rfl, rfl, (by show (0 : Int) < 4; decide), _, _, rfl, rfl, ?_⟩⟩
    dsimp only
    generalize hN : (if v < 0 then -v else v) % 4 = many
    have hN0 : 0 ≤ many := by rw [← hN]; exact Int.emod_nonneg _ (by decide)
    have hN1 : many < 4 := by rw [← hN]; exact Int.emod_lt_of_pos _ (by decide)
    refine ⟨_, rfl, a, ns, 1, rfl, by decide, hS, fun d H1 hd s1 b1 D1 o1 => ?_⟩
    have S1 : SqL K H1 a (ns.map V.int) := s1.seq hS
    refine ⟨(by show 10 ≤ sizeLine; decide), fun l hl => ⟨l, rfl, ⟨_, SqL.of upd_same⟩, ?_⟩⟩
    have nl : l ≠ d := fun z => by
      obtain ⟨_, hd1⟩ := D1.some
      rw [z, hd1] at hl
      cases hl
    refine for_list (K := K) (xs := Sd.words10.map V.str) (fun i σ H' => ∃ (x y : Option V), σ = [some (.ref a), some (.int (1 + many)), some (.ref d), x, y] ∧ Sd.Dice H' d a ∧ SqL K H' a (ns.map V.int) ∧ H' l = some (.lst (Sd.words10.map V.str)))
      ⟨none, none, rfl, D1.same (Sd.Same.new hl), (Sd.Same.new hl).seq S1, upd_same⟩ (fun i σ H' _ h => SqL.of h.choose_spec.choose_spec.2.2.2) ?_ (fun σ H' _ => q H')
    rintro i x σ H' hx ⟨x1, y1, rfl, D2, S2, L2'⟩
    obtain ⟨wd, hwd, rfl⟩ := Sd.strs_got hx
    have hm : wd ∈ Sd.words10 := List.mem_of_getElem? hwd
    refine ⟨_, rfl, _, rfl, d, a, ns, wd, rfl, hm, D2, S2, fun p H3 dd ew ok hp hp3 D3 bt => ?_⟩
    refine ⟨_, rfl, p, dd, 1 + many, rfl, hp3, by omega, by omega, fun H4 s4 => ?_⟩
    refine ⟨_, rfl, _, _, _, _, false, rfl, .ty _, Sd.ty_int, kit_ty (by decide +kernel), false, rfl, ?_⟩
    refine ⟨_, rfl, _, _, _, _, true, rfl, .ty _, Sd.ty_int, kit_ty (by decide +kernel), true, rfl, ?_⟩
    refine ⟨_, rfl, _, rfl, _, rfl, dd, 1 + many, (by rw [ew]; rfl), by omega, by omega, fun H5 s5 => ?_⟩
    refine ⟨rfl, _, rfl, iteNS rfl ?_⟩
    have s35 := s4.trans s5
    exact ⟨_, _, rfl, D3.same s35, s35.seq (D2.seq bt S2), s35 _ _ (bt _ _ nl L2')⟩
end
theorem all_mk {l : PySem.W.OpenLaw} {w : World} {K : PySem.W.Frag} {h : Heap} {mg : Str → Option Value} {fa f1 f2 f3 f4 f5 f6 f7 : Addr} (X : K.In h) (G : h.Ns mainGlobals mg) (hfa : mg "law" = some (.ref fa))
    {od1 an1 od2 an2 od3 an3 od4 an4 od5 an5 od6 an6 od7 an7 : Option Addr} {sl1 sl2 sl3 sl4 sl5 sl6 sl7 : Array (Option Value)} {oc1 kV1 dc1 pm1 cd1 ct1 oc2 kV2 dc2 pm2 cd2 ct2 oc3 kV3 dc3 pm3 cd3 ct3 oc4 kV4 dc4 pm4 cd4 ct4 oc5 kV5 dc5 pm5 cd5 ct5 oc6 kV6 dc6 pm6 cd6 ct6 oc7 kV7 dc7 pm7 cd7 ct7 : Value}
    (a1 : PySem.W.nsIn K mainGlobals "_law_cell" = some (some (.ref f1)))
    (l1 : K.lookup f1 = some ⟨oc1, od1, .func (PySem.W.fnOf "_law_cell" "_law_cell" (defArgs s_l_cell) (defBody s_l_cell) (defScope s_l_cell) .none kV1 dc1 pm1 an1 cd1 ct1), sl1⟩)
    (c1 : PySem.W.codeIn K cd1 "_law_cell" = true)
    (k1 : PySem.W.keepIn K (.ref f1) = true)
    (a2 : PySem.W.nsIn K mainGlobals "_law_dice" = some (some (.ref f2)))
    (l2 : K.lookup f2 = some ⟨oc2, od2, .func (PySem.W.fnOf "_law_dice" "_law_dice" (defArgs s_l_dice) (defBody s_l_dice) (defScope s_l_dice) .none kV2 dc2 pm2 an2 cd2 ct2), sl2⟩)
    (c2 : PySem.W.codeIn K cd2 "_law_dice" = true)
    (k2 : PySem.W.keepIn K (.ref f2) = true)
    (a3 : PySem.W.nsIn K mainGlobals "_law_off" = some (some (.ref f3)))
    (l3 : K.lookup f3 = some ⟨oc3, od3, .func (PySem.W.fnOf "_law_off" "_law_off" (defArgs s_l_off) (defBody s_l_off) (defScope s_l_off) .none kV3 dc3 pm3 an3 cd3 ct3), sl3⟩)
    (c3 : PySem.W.codeIn K cd3 "_law_off" = true)
    (k3 : PySem.W.keepIn K (.ref f3) = true)
    (a4 : PySem.W.nsIn K mainGlobals "_law_deed" = some (some (.ref f4)))
    (l4 : K.lookup f4 = some ⟨oc4, od4, .func (PySem.W.fnOf "_law_deed" "_law_deed" (defArgs s_l_deed) (defBody s_l_deed) (defScope s_l_deed) .none kV4 dc4 pm4 an4 cd4 ct4), sl4⟩)
    (c4 : PySem.W.codeIn K cd4 "_law_deed" = true)
    (k4 : PySem.W.keepIn K (.ref f4) = true)
    (a5 : PySem.W.nsIn K mainGlobals "most_steps" = some (some (.ref f5)))
    (l5 : K.lookup f5 = some ⟨oc5, od5, .func (PySem.W.fnOf "most_steps" "most_steps" (defArgs s_most_steps) (defBody s_most_steps) (defScope s_most_steps) .none kV5 dc5 pm5 an5 cd5 ct5), sl5⟩)
    (c5 : PySem.W.codeIn K cd5 "most_steps" = true)
    (k5 : PySem.W.keepIn K (.ref f5) = true)
    (a6 : PySem.W.nsIn K mainGlobals "_law_most" = some (some (.ref f6)))
    (l6 : K.lookup f6 = some ⟨oc6, od6, .func (PySem.W.fnOf "_law_most" "_law_most" (defArgs s_l_most) (defBody s_l_most) (defScope s_l_most) .none kV6 dc6 pm6 an6 cd6 ct6), sl6⟩)
    (c6 : PySem.W.codeIn K cd6 "_law_most" = true)
    (k6 : PySem.W.keepIn K (.ref f6) = true)
    (a7 : PySem.W.nsIn K mainGlobals "law" = some (some (.ref f7)))
    (l7 : K.lookup f7 = some ⟨oc7, od7, .func (PySem.W.fnOf "law" "law" (defArgs s_law) (defBody s_law) (defScope s_law) .none kV7 dc7 pm7 an7 cd7 ct7), sl7⟩)
    (c7 : PySem.W.codeIn K cd7 "law" = true)
    (k7 : PySem.W.keepIn K (.ref f7) = true)
    (z_abs : PySem.W.nsIn K mainGlobals "abs" = some none)
    (z_len : PySem.W.nsIn K mainGlobals "len" = some none)
    (z_max : PySem.W.nsIn K mainGlobals "max" = some none)
    (z_int : PySem.W.nsIn K mainGlobals "int" = some none)
    (z_isinstance : PySem.W.nsIn K mainGlobals "isinstance" = some none)
    (z_bool : PySem.W.nsIn K mainGlobals "bool" = some none)
    : ∃ fd : FuncData, (∀ (s : Shared) (v : Value), BindsTo s fd ⟨[v], []⟩ [("_law_script", v)]) ∧ ∀ base : Heap, K.In base → base.Ns mainGlobals mg → FnOk l.prog w K mg base CX0 4 fa fd ["_law_script"] (spLaw K) := by
  have e := hfa.symm.trans (PySem.W.mg_of X G a7)
  cases e
  have T : Txt K mg  :=
    { abs := PySem.W.mg_none_of X G z_abs,
      len := PySem.W.mg_none_of X G z_len,
      max := PySem.W.mg_none_of X G z_max,
      int := PySem.W.mg_none_of X G z_int,
      isinstance := PySem.W.mg_none_of X G z_isinstance,
      bool := PySem.W.mg_none_of X G z_bool }
  have F1 := fun_mk (st := s_l_cell) l1 c1 k1
  have B1 := F1.binds (ps := ["_law_script", "_law_k"]) fun _ _ _ _ _ _ us hl => match us, hl with | [_, _], _ => rfl
  have F2 := fun_mk (st := s_l_dice) l2 c2 k2
  have B2 := F2.binds (ps := ["_law_script", "_law_k"]) fun _ _ _ _ _ _ us hl => match us, hl with | [_, _], _ => rfl
  have F3 := fun_mk (st := s_l_off) l3 c3 k3
  have B3 := F3.binds (ps := ["_law_d", "_law_most_here"]) fun _ _ _ _ _ _ us hl => match us, hl with | [_, _], _ => rfl
  have F4 := fun_mk (st := s_l_deed) l4 c4 k4
  have B4 := F4.binds (ps := ["_law_d", "_law_word"]) fun _ _ _ _ _ _ us hl => match us, hl with | [_, _], _ => rfl
  have F5 := fun_mk (st := s_most_steps) l5 c5 k5
  have B5 := F5.binds (ps := ["deed", "many"]) fun _ _ _ _ _ _ us hl => match us, hl with | [_, _], _ => rfl
  have F6 := fun_mk (st := s_l_most) l6 c6 k6
  have B6 := F6.binds (ps := ["_law_word", "_law_many"]) fun _ _ _ _ _ _ us hl => match us, hl with | [_, _], _ => rfl
  have F7 := fun_mk (st := s_law) l7 c7 k7
  have B7 := F7.binds (ps := ["_law_script"]) fun _ _ _ _ _ _ us hl => match us, hl with | [_], _ => rfl
  refine ⟨PySem.W.fnOf "law" "law" (defArgs s_law) (defBody s_law) (defScope s_law) .none kV7 dc7 pm7 an7 cd7 ct7, fun s v => .of_eq rfl, fun base _ _ => ?_⟩
  have C_l_cell : Sd.Cal l.prog w K mg base CX0 1 "_law_cell" ["_law_script", "_law_k"] (Sd.spCell K) := Sd.Cal.mk' F1 (PySem.W.mg_of X G a1) B1 (ok_l_cell F1 T.toDr)
  have C_l_dice : Sd.Cal l.prog w K mg base CX0 2 "_law_dice" ["_law_script", "_law_k"] (Sd.spDice K) := Sd.Cal.mk' F2 (PySem.W.mg_of X G a2) B2 (ok_l_dice F2 T.toDr C_l_cell)
  have C_l_off : Sd.Cal l.prog w K mg base CX0 2 "_law_off" ["_law_d", "_law_most_here"] (Sd.spOff K) := Sd.Cal.mk' F3 (PySem.W.mg_of X G a3) B3 (ok_l_off F3 T.toDr C_l_cell)
  have C_l_deed : Sd.Cal l.prog w K mg base CX0 3 "_law_deed" ["_law_d", "_law_word"] (Sd.spLDeed K) := Sd.Cal.mk' F4 (PySem.W.mg_of X G a4) B4 (ok_l_deed F4 T.toDr C_l_off)
  have C_most_steps : Sd.Cal l.prog w K mg base CX0 1 "most_steps" ["deed", "many"] (spMost) := Sd.Cal.mk' F5 (PySem.W.mg_of X G a5) B5 (ok_most_steps F5 T)
  have C_l_most : Sd.Cal l.prog w K mg base CX0 1 "_law_most" ["_law_word", "_law_many"] (spLMost) := Sd.Cal.mk' F6 (PySem.W.mg_of X G a6) B6 (ok_l_most F6 T)
  exact ok_law F7 T C_l_cell C_l_dice C_l_deed C_l_most C_most_steps
theorem walk {l : PySem.W.OpenLaw} {q : Program} {loose : List Str} {XP : (Str → Option Value) → Heap → Prop} {YP : World → Heap → Prop} {d : DefRec} {K : Params → PySem.W.Frag} (hn : l.most = some 63) (hdf : d.params.defaults = [])
    (hY : ∀ (w : World) (h : Heap), YP w h → (K w.params).In h)
    (F : ∀ (w : World) (mg : Str → Option Value) (fa : Addr) (h : Heap), (K w.params).In h → h.Ns mainGlobals mg → mg d.name = some (.ref fa) →
      ∃ fd : FuncData, (∀ (s : Shared) (u : Value), BindsTo s fd ⟨[u], []⟩ [("_law_script", u)]) ∧ ∀ base : Heap, (K w.params).In base → base.Ns mainGlobals mg → FnOk l.prog w (K w.params) mg base CX0 4 fa fd ["_law_script"] (spLaw (K w.params))) :
    PySem.W.WalkO q loose XP YP l.row.toRowW d [] (fun f vs => PySem.call f vs) :=
  L2.walk_of (n := 63) (k := 4) (x := "_law_script") (CX := fun _ => CX0) (sp := fun w => spLaw (K w.params)) hn (by decide) hdf ⟨rfl, by decide, by decide⟩ hY F (fun _ _ a ns hl _ hS => ⟨a, ns, rfl, hS, hl, fun _ => rfl⟩) fun _ _ _ _ _ z => z
end K06
open PySem PySem.W PyProof.Rows in
set_option maxRecDepth 100000 in
set_option maxHeartbeats 0 in
theorem PySem.Challenge.cw_stillhands_k06_most_steps_holds : PySem.Challenge.rw_stillhands_k06_most_steps.Holds := by
  w_on; o_law; k_head; (case hw => w_witness2)
  k_fill
  refine K06.walk (l := PySem.Challenge.rw_stillhands_k06_most_steps) rfl rfl (fun w h Y => PySem.W.kIn_of Y) ?F
  case F =>
    intro w mg fa h KX G hmg
    refine' K06.all_mk KX G hmg ?a1 ?l1 ?c1 ?k1 ?a2 ?l2 ?c2 ?k2 ?a3 ?l3 ?c3 ?k3 ?a4 ?l4 ?c4 ?k4 ?a5 ?l5 ?c5 ?k5 ?a6 ?l6 ?c6 ?k6 ?a7 ?l7 ?c7 ?k7 ?z_abs ?z_len ?z_max ?z_int ?z_isinstance ?z_bool
    (case a1 => k_is)
    (case l1 => k_is)
    (case c1 => k_is)
    (case k1 => k_is)
    (case a2 => k_is)
    (case l2 => k_is)
    (case c2 => k_is)
    (case k2 => k_is)
    (case a3 => k_is)
    (case l3 => k_is)
    (case c3 => k_is)
    (case k3 => k_is)
    (case a4 => k_is)
    (case l4 => k_is)
    (case c4 => k_is)
    (case k4 => k_is)
    (case a5 => k_is)
    (case l5 => k_is)
    (case c5 => k_is)
    (case k5 => k_is)
    (case a6 => k_is)
    (case l6 => k_is)
    (case c6 => k_is)
    (case k6 => k_is)
    (case a7 => k_is)
    (case l7 => k_is)
    (case c7 => k_is)
    (case k7 => k_is)
    (case z_abs => k_is)
    (case z_len => k_is)
    (case z_max => k_is)
    (case z_int => k_is)
    (case z_isinstance => k_is)
    (case z_bool => k_is)
