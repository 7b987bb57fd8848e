--@isany
--@ins
import PyProof.Rows.All
import Wide.All
import OpenK.AllK
import Wide.FinOn
import HandS.ForMost
import HandS.Walk
import HandS.Flow
import HandS.Codes
import HandS.IsInst
import HandS.Conv
import HandS.StrMore
import PyProof.MeetsSeq2
import PyProof.DictTable
import HandS.Wide
import HandS.TupAny
import HandS.More
import HandS.Dict
import HandS.ForExc
import HandS.ExcIs
import HandS.ExcField
import HandS.DeepEq
import HandS.TupLe
import HandS.Steps
import HandS.ExcInit
import HandS.HotCalls
import HandS.TryMany
import HandS.FStr
import HandS.WideBits
import HandS.SortRule
import HandS.SortKw
import HandS.Keys
import KE.SortKeyHeap
import KE.DataMinMax
import KE.SortData
import HandS.RaiseMore
import HandS.Zip
import HandS.DictSubView
import HandS.Deep
import HandS.Sort
import HandS.SetKeys
import HandS.Strs
import HandS.SetFor
import HandS.DictComp
import HandS.Style
import PySem.Challenge.RW_oathledger_k13_whole_broken_streams
set_option Elab.async false
set_option linter.all false
set_option maxRecDepth 100000
set_option maxHeartbeats 4000000
namespace Law
open PySem PySem.Spec PyProof.Rows L2
open C8 (Cal Met Mak pe_c pe_mk pe_mt pe_mt0 pe_gc pss_cut tCut)
/-! ### a def of the top, by its name -/
structure DefOk (K : PySem.W.Frag) (mg : Str → Option Value) (x : Str) (st : Stmt) (ps : List Str) : Prop where
  ex : ∃ (f : Addr) (fd : FuncData), L2.Fun K x x st f fd ∧ mg x = some (.ref f) ∧ Binds K fd ps []
section
variable {P : Program} {w : World} {K : PySem.W.Frag} {mg : Str → Option Value} {base : Heap}
/-- a def's promise, by its body -/
theorem cal {x : Str} {st : Stmt} {N ps : List Str} {k : Nat} {sp : Sp} (D : DefOk K mg x st ps) (S : FnScope N ps (defScope st)) (len : ∀ vs H Q E, sp vs H Q E → vs.length = ps.length)
    (hbody : ∀ (f : Addr) (cdv : Value) (A : Around) (outer : List Env) (s : Shared) (H : Hp) (vs : List V) (Q : VK) (E : XK), Room k (A.deeper (envOfC x (defScope st) s.heap.objs.size f cdv)) → sp vs H Q E →
      ∃ t, PSs (cxOf L2.CX0 P w K mg base N x (defScope st) f cdv A outer s H E).nox (defBody st) t ∧ t { nx := fun _ H' => Q .non H', rt := Q } (start N vs) H) : Cal P w K mg base (k + 1) x sp [] := by
  obtain ⟨f, fd, F, hm, b⟩ := D.ex
  exact ⟨f, fd, ps, [], F.ok S len (fun cdv A outer s H vs Q E hr h => hbody f cdv A outer s H vs Q E hr h), hm, F.kp, b, .nil⟩
/-- a call without arguments -/
theorem pe_c0 {X : Cx} {k j : Nat} {x : Str} {sp : Sp} {dvs : List V} {p pos : Pos} (c : Cal X.prog X.w X.K X.mg X.base k x sp dvs) (hr : Room j X.A) (hk : k ≤ j) (hg : Gl X x)
    (hdb : (x == ("__debug__" : Str)) = false := by decide) : PE X (.Call (.Name x p) [] [] pos) (tCall sp dvs L2.E0 tNil) := by
  obtain ⟨f, fd, ps, ds, F, hm, kp, b, d⟩ := c.ex
  exact pe_call0 F (hr.mono hk) hg hm kp b d pass0 hdb
end
/-! ### small things -/
theorem same_upd {H : Hp} {p : Addr} {o : HO} (h : H p = none) : Same H (upd H p o) := fun b x e => by
  rw [upd_ne (ne_of_none e h)]
  exact e
theorem same_mut {H H' : Hp} {p : Addr} {o : HO} (s : Same H H') (h : H p = none) : Same H (upd H' p o) := fun b x e => by
  rw [upd_ne (ne_of_none e h)]
  exact s b x e
theorem sz1000 {n : Nat} (h : n ≤ 100000) : n ≤ sizeLine := Nat.le_trans h (by decide)
theorem sz1000' {n : Nat} (h : n < 100000) : n < sizeLine := Nat.lt_of_lt_of_le h (by decide)
theorem sz1000'' {n : Nat} (h : n ≤ 16777216) : n ≤ sizeLine := by rw [sizeLine_eq]; exact h
theorem sq {K : PySem.W.Frag} {H : Hp} {a : Addr} {xs : List V} (h : H a = some (.lst xs)) : SqL K H a xs := .inl (.inl h)
def spLaw (K : PySem.W.Frag) : Sp := fun vs H Q _ => ∃ (a : Addr) (ns : List Int), vs = [.ref a] ∧ SqL K H a (ns.map V.int) ∧ ns.length ≤ 63 ∧ ∀ H', Q (.bl true) H'
/-! ### the reading, step by step -/
local macro_rules | `(tactic| walk_at "sd") => `(tactic| first
  | omega
  | decide
  | assumption
  | (show _ ∨ _; exact Or.inl ⟨by omega, by omega⟩)
  | (show _ ∨ _; exact Or.inr ⟨by omega, by omega⟩)
  | (show _ ∧ _; exact ⟨by omega, by omega⟩)
  | (show _ ∧ _; exact ⟨by decide, by decide⟩)
  | exact sz1000 (by omega)
  | exact sz1000' (by omega))
local macro_rules | `(tactic| walk_at "sz") => `(tactic| first
  | exact sz1000 (Nat.le_of_ble_eq_true rfl)
  | exact sz1000 (by omega)
  | exact sz1000'' (by omega)
  | assumption)
/-- one step of a reading: a slot, an operator upon numbers, a call upon values -/
local macro_rules | `(tactic| walk_at "rd") => `(tactic| first
  | refine ⟨_, (rfl : (_ : List (Option V))[_]? = some (some _)), ?_⟩
  | refine ⟨_, _, (rfl : (_ : V) = _), (rfl : (_ : V) = _), (by walk_at "sd" : (_ : Prop)), ?_⟩
  | refine ⟨_, _, (rfl : (_ : V) = _), (rfl : (_ : V) = _), ?_⟩
  | refine ⟨_, (rfl : (_ : List V) = _), (by walk_at "sd" : (_ : Prop)), (by walk_at "sd" : (_ : Prop)), ?_⟩
  | refine ⟨_, (rfl : (_ : List V) = _), ?_⟩
  | refine ⟨_, (rfl : (_ : V) = _), ?_⟩
  | refine .inl ⟨_, (rfl : (_ : List V) = _), ?_⟩
  | refine ⟨⟨_, (rfl : (_ : V) = _)⟩, ?_⟩
  | refine ⟨(rfl : scal _ _ = true), ?_⟩
  | refine ⟨(rfl : V.non = V.non), ?_⟩
  | refine ⟨(by walk_at "sz" : (_ ≤ sizeLine)), ?_⟩)
local macro_rules | `(tactic| walk_at "rds") => `(tactic| repeat walk_at "rd")
theorem tyes {σ : L2.St} {H : Hp} {A B : Hp → Prop} (h : A H) : tYes σ H (fun b H3 => if b = true then A H3 else B H3) := by
  show (if true = true then A H else B H)
  rw [if_pos rfl]
  exact h
theorem sum_ones {ys : List Str} (h : ∀ y ∈ ys, y.length = 1) : (ys.map (fun x => x.length)).sum = ys.length := by
  induction ys with
  | nil => rfl
  | cons y r ih =>
    rw [List.map_cons, List.sum_cons, ih (fun z hz => h z (List.mem_cons_of_mem _ hz)), h y List.mem_cons_self, List.length_cons]
    omega
theorem chr_at {z : Str} {i : Int} (h0 : 0 ≤ i) (h1 : i < z.length) : ∃ c, atI z.cps.toList i = some c := by
  obtain ⟨j, rfl⟩ := Int.eq_ofNat_of_zero_le h0
  have hj : j < z.cps.toList.length := by
    rw [Array.length_toList]
    exact Int.ofNat_lt.mp h1
  exact ⟨z.cps.toList[j], atI_nat (List.getElem?_eq_getElem hj)⟩
/-- what an append to a tracked new list leaves -/
theorem lst_app {α : Type} {H : Hp} {D : Addr} {f : α → V} {ys : List α} {y : α} : upd H D (.lst (ys.map f ++ [f y])) D = some (.lst ((ys ++ [y]).map f)) := by
  rw [upd_same, List.map_append]
  rfl
theorem rg40 {n : Nat} (h : n ≤ 100000) : RgC 0 n 40 ((n + 39) / 40) := by
  have e : Builtin.Range.rangeSize 0 (n : Int) 40 = (((n + 39) / 40 : Nat) : Int) := by
    rw [rangeSize_pos (by decide) (by omega)]
    omega
  refine ⟨by decide, by decide, ?_, e⟩
  unfold Builtin.Range.small
  rw [e]
  unfold Builtin.Range.rangeFitsLong
  simp
  omega
theorem isi {K : PySem.W.Frag} {H : Hp} {x : V} {T1 T2 : String} {b : Bool} {Q : VK} (ty : TyX K H x (.type T1)) (e : kitB T1 T2 = some b) (q : Q (.bl b) H) : rIsi K [x, .ty T2] H Q :=
  ⟨x, .ty T2, _, _, b, rfl, .ty _, ty, kit_ty e, q⟩
theorem ifT {c : Bool} {A B : Prop} (hc : c = true) (h : A) : if c = true then A else B := by
  rw [if_pos hc]
  exact h
theorem ifF {c : Bool} {A B : Prop} (hc : c = false) (h : B) : if c = true then A else B := by
  rw [if_neg (by rw [hc]; decide)]
  exact h
local macro_rules | `(tactic| walk_at "isk") => `(tactic| first
  | exact .base (.int _) | exact .base (.str _) | exact .base (.bl _) | exact .base .non
  | exact .base (.lst (by assumption)) | exact .base (.tup (by assumption)) | exact .base (.dK (by assumption)))
/-- isinstance(x, T) with a built-in T; the object's fact stands in the context -/
local macro_rules | `(tactic| walk_at "isi") => `(tactic| first
  | refine ⟨_, .ty _, _, _, true, (rfl : (_ : List V) = _), .ty _, (by walk_at "isk"), kit_ty (by decide +kernel), ?_⟩
  | refine ⟨_, .ty _, _, _, false, (rfl : (_ : List V) = _), .ty _, (by walk_at "isk"), kit_ty (by decide +kernel), ?_⟩)
/-! ### classes of the top -/
structure MethOk (K : PySem.W.Frag) (C : Addr) (m qual : Str) (st : Stmt) (ps : List Str) : Prop where
  ex : ∃ (f : Addr) (fd : FuncData), Meth K C m f ∧ L2.Fun K m qual st f fd ∧ Binds K fd ps []
structure MakOk (K : PySem.W.Frag) (C : Addr) (qual : Str) (st : Stmt) (ps : List Str) : Prop where
  ex : ∃ (f : Addr) (fd : FuncData), Mk K C f ∧ L2.Fun K "__init__" qual st f fd ∧ Binds K fd ps []
section
variable {P : Program} {w : World} {K : PySem.W.Frag} {mg : Str → Option Value} {base : Heap}
theorem met {C : Addr} {m qual : Str} {st : Stmt} {N ps : List Str} {k : Nat} {sp : Sp} (c : Cls K C) (D : MethOk K C m qual st ps) (S : FnScope N ps (defScope st)) (len : ∀ vs H Q E, sp vs H Q E → vs.length = ps.length)
    (hbody : ∀ (f : Addr) (cdv : Value) (A : Around) (outer : List Env) (s : Shared) (H : Hp) (vs : List V) (Q : VK) (E : XK), Room k (A.deeper (envOfC qual (defScope st) s.heap.objs.size f cdv)) → sp vs H Q E →
      ∃ t, PSs (cxOf L2.CX0 P w K mg base N qual (defScope st) f cdv A outer s H E).nox (defBody st) t ∧ t { nx := fun _ H' => Q .non H', rt := Q } (start N vs) H) : Met P w K mg base (k + 1) C m sp [] := by
  obtain ⟨f, fd, M, F, b⟩ := D.ex
  exact ⟨f, fd, ps, [], c, M, F.ok S len (fun cdv A outer s H vs Q E hr h => hbody f cdv A outer s H vs Q E hr h), b, .nil⟩
theorem mak {C : Addr} {x qual : Str} {st : Stmt} {N ps : List Str} {k : Nat} {sp : Sp} (hm : mg x = some (.ref C)) (D : MakOk K C qual st ps) (S : FnScope N ps (defScope st)) (len : ∀ vs H Q E, sp vs H Q E → vs.length = ps.length)
    (hbody : ∀ (f : Addr) (cdv : Value) (A : Around) (outer : List Env) (s : Shared) (H : Hp) (vs : List V) (Q : VK) (E : XK), Room k (A.deeper (envOfC qual (defScope st) s.heap.objs.size f cdv)) → sp vs H Q E →
      ∃ t, PSs (cxOf L2.CX0 P w K mg base N qual (defScope st) f cdv A outer s H E).nox (defBody st) t ∧ t { nx := fun _ H' => Q .non H', rt := Q } (start N vs) H) : Mak P w K mg base (k + 1) x C sp [] := by
  obtain ⟨f, fd, M, F, b⟩ := D.ex
  exact ⟨f, fd, ps, [], M, F.ok S len (fun cdv A outer s H vs Q E hr h => hbody f cdv A outer s H vs Q E hr h), hm, b, .nil⟩
end
/-- a tuple of the top, in the written part -/
def KTup (K : PySem.W.Frag) (a : Addr) (xs : List V) : Prop := ∃ o its n, K.lookup a = some o ∧ o.cls = Value.type "tuple" ∧ o.data = Data.seq its n ∧ its.size ≤ sizeLine ∧ Vals xs its.toList
theorem pe_mk0 {X : Cx} {k j : Nat} {x : Str} {C : Addr} {sp : Sp} {dvs : List V} {p pos : Pos} (c : Mak X.prog X.w X.K X.mg X.base k x C sp dvs) (hr : Room j X.A) (hk : k + 1 ≤ j) (hg : Gl X x)
    (hdb : (x == ("__debug__" : Str)) = false := by decide) : PE X (.Call (.Name x p) [] [] pos) (tMake C sp dvs L2.E0 tNil) := by
  obtain ⟨f, fd, ps, ds, M, F, hm, b, d⟩ := c.ex
  exact pe_make0 M F (hr.mono hk) hg hm b d pass0 hdb
/-! ### rules whose written part is named K (a comprehension's context is another one) -/
section
variable {X : Cx} {K : PySem.W.Frag}
theorem kin (h : X.K = K := by rfl) : OpR X (compareOp .In) (rIn K false) := by subst h; exact op_in_seq
theorem knin (h : X.K = K := by rfl) : OpR X (compareOp .NotIn) (rIn K true) := by subst h; exact op_notIn_seq
theorem kixl (h : X.K = K := by rfl) : IxR X (rIxL K) := by subst h; exact ix_list
theorem kixt (h : X.K = K := by rfl) : IxR X (rIxT K) := by subst h; exact ix_tup
theorem ksll (h : X.K = K := by rfl) : SlR X (rSlL K) := by subst h; exact sl_list
theorem kisi (h : X.K = K := by rfl) : CallR X (.builtin "isinstance") (rIsi K) := by subst h; exact call_isi
theorem kfld {o : Expr} {f : Str} {pos : Pos} {ta : TE} (he : PE X o ta) (hb : attributeBase o f X.env (eval o X.env) = eval o X.env := by rfl) (h : X.K = K := by rfl) : PE X (.Attribute o f pos) (tFld K ta f) := by subst h; exact pe_fld he hb
def rLenK (K : PySem.W.Frag) : List V → Hp → VK → Prop := fun xs H Q => ∃ p ys, xs = [.ref p] ∧ (SqL K H p ys ∨ SqT K H p ys) ∧ Q (.int ys.length) H
theorem klen (h : X.K = K := by rfl) : CallR X (.builtin "len") (rLenK K) := by subst h; exact call_len_seq
end
theorem hu1 {k : Nat} {A : Around} (hr : Room k A) : A.units + 1 < cLine := by have := hr.units; omega
section
variable {X : Cx}
theorem kdin {d : Addr} (h : ∃ es n, KDict X.K X.w d es n) : OpR X (compareOp .In) (fun x y H Q => ∃ (z : Str) (r : Option Value), x = .str z ∧ y = .ref d ∧ PySem.W.nsIn X.K d z = some r ∧ Q (.bl r.isSome) H) := by
  obtain ⟨es, n, D⟩ := h
  exact op_in_kd D
theorem kdnin {d : Addr} (h : ∃ es n, KDict X.K X.w d es n) : OpR X (compareOp .NotIn) (fun x y H Q => ∃ (z : Str) (r : Option Value), x = .str z ∧ y = .ref d ∧ PySem.W.nsIn X.K d z = some r ∧ Q (.bl (!r.isSome)) H) := by
  obtain ⟨es, n, D⟩ := h
  exact op_notIn_kd D
end
theorem kgtup {X : Cx} {K : PySem.W.Frag} {es : List Expr} {k : Nat} {t : TGs} {n : Nat} {pos : Pos} (hc : X.calm = true) (h : PGs X es t)
    (hn : (assignEach es X.env).length = n := by rfl) (hst : (assignEach es X.env).findIdx? (·.1) = none := by rfl) (hK : X.K = K := by rfl) : PG X (.Tuple es k pos) (gTup K n t) := by subst hK; exact pg_tup hc h hn hst
theorem hu65 {A : Around} {k : Nat} (hr : Room k A) : A.units + 65 < cLine := by have := hr.un; omega
theorem keqD {X : Cx} {K : PySem.W.Frag} (hu : X.A.units + 64 < cLine) (h : X.K = K := by rfl) : OpR X (compareOp .Eq) (rEqD K) := by subst h; exact op_eqD hu
theorem kneD {X : Cx} {K : PySem.W.Frag} (hu : X.A.units + 64 < cLine) (h : X.K = K := by rfl) : OpR X (compareOp .NotEq) (rNeD K) := by subst h; exact op_neD hu

/-! ### x.translate({37: None}) of an ASCII text: the sign with code 37 is left out -/
section
open PySem PySem.Builtin PySem.Builtin.Str
/-- what the table tells of a sign -/
def Tl37 {prog : Program} {w : World} (f : Key → Option Value) : Prop := ∀ c : Nat, f (Sum.inl (c : Int)) = if c = 37 then some Value.none else none
theorem mapOfK {prog : Program} {w : World} {h h' : Heap} {a : Addr} {f : Key → Option Value} (m : h.MapOf (mixKind prog w) a f) (k : ∀ b o, h.get? b = some o → h'.get? b = some o) : h'.MapOf (mixKind prog w) a f := by
  obtain ⟨o, es, ep, ho, r⟩ := m
  exact ⟨o, es, ep, k _ _ ho, r⟩
theorem tl37 {prog : Program} {w : World} {A : Around} {E : Value → Shared → Prop} {s : Shared} {d : Addr} {c : Nat} {f : Key → Option Value} {Q : Mapped → Shared → Prop} (hh : A.handled = none) (hd : (d == sysModules) = false) (hm : s.heap.MapOf (mixKind prog w) d f) (hk : Tl37 (prog := prog) (w := w) f)
    (h1 : c = 37 → ∀ h' k, (∀ b o, s.heap.get? b = some o → h'.get? b = some o) → Q .drop { s with heap := h', toks := k })
    (h2 : c ≠ 37 → ∀ h' k, (∀ b o, s.heap.get? b = some o → h'.get? b = some o) → Q .keep { s with heap := h', toks := k }) : wpAny (model prog w) A (tableLookup (.ref d) c) Q E s := by
  unfold tableLookup
  refine wpAny_bind (wpAny_attempt (wpAny_bind (wpAny_mkInt ?_)))
  have hf := hk c
  by_cases hc : c = 37
  · rw [if_pos hc] at hf
    refine wpAny_getItem_of (knd := mixKind prog w) (k := Sum.inl (c : Int)) (mixKind_int prog w _ _) hm hf ?_
    exact wpAny_pure (h1 hc s.heap _ fun _ _ e => e)
  · rw [if_neg hc] at hf
    refine wpAny_getItem_missing_of (knd := mixKind prog w) (k := Sum.inl (c : Int)) (mixKind_int prog w _ _) hd hh hm hf fun h' e hx => ?_
    show wpAny _ _ (do let b ← isInstance (.ref e) (.type "LookupError"); _) _ _ _
    obtain ⟨ob, t, ho, hc2, _⟩ := hx.there
    refine wpAny_bind (wpAny_isInstance (T := "KeyError") (b := true) ⟨ob, ho, hc2⟩ (by first | rfl | kernel_rfl) ?_)
    show wpAny _ _ (if true = true then (do rule "str.translate.not-in-table"; pure Mapped.keep) else _) _ _ _
    rw [if_pos rfl]
    exact wpAny_bind (wpAny_rule (wpAny_pure (h2 hc h' _ hx.keeps)))
theorem pieces37 : ∀ (l : List Nat) (acc : Array Nat), List.foldl (fun acc (p : Str) => acc ++ p.cps) acc (l.map fun c => (⟨#[c]⟩ : Str)) = acc ++ l.toArray
  | [], acc => by
    show acc = acc ++ #[]
    rw [Array.append_empty]
  | c :: l, acc => by
    rw [List.map_cons, List.foldl_cons, pieces37 l]
    apply Array.toList_inj.mp
    simp
theorem look_new {c c' : Nat} {a b : Option Nat} {known : List (Nat × Option Nat)} (h : List.lookup c' ((c, a) :: known) = some b) : (c' = c ∧ b = a) ∨ List.lookup c' known = some b := by
  rw [List.lookup_cons] at h
  by_cases e : c' = c
  · rw [e, beq_self_eq_true] at h
    exact Or.inl ⟨e, (Option.some.inj h).symm⟩
  · have e2 : (c' == c) = false := beq_eq_false_iff_ne.mpr e
    rw [e2] at h
    exact Or.inr h
def out37 (l : List Nat) : List Nat := l.filter (fun c => decide (c ≠ 37))
def an37 (c : Nat) : Option Nat := if c = 37 then none else some c
/-- what stands while the signs are walked -/
def Tr37 (x : List Nat) (s : Shared) (rest : List Nat) (st : List Str × Nat × Bool × List (Nat × Option Nat) × Bool) (s' : Shared) : Prop :=
  ∃ (past : List Nat) (pieces : List Str) (known : List (Nat × Option Nat)) (h' : Heap) (k : Nat), x = past ++ rest ∧ st = (pieces, (out37 past).length, true, known, false) ∧ pieces.reverse = (out37 past).map (fun c => (⟨#[c]⟩ : Str)) ∧
    (∀ c a, List.lookup c known = some a → a = an37 c) ∧ s' = { s with heap := h', toks := k } ∧ ∀ b o, s.heap.get? b = some o → h'.get? b = some o
theorem Tr37.keep {x : List Nat} {s : Shared} {rest past : List Nat} {c : Nat} {pieces : List Str} {known : List (Nat × Option Nat)} {h' : Heap} {k : Nat} (hc : c ≠ 37) (h1 : x = past ++ c :: rest)
    (h3 : pieces.reverse = (out37 past).map (fun c => (⟨#[c]⟩ : Str))) (h4 : ∀ c a, List.lookup c known = some a → a = an37 c) (h6 : ∀ b o, s.heap.get? b = some o → h'.get? b = some o) :
    Tr37 x s rest (⟨#[c]⟩ :: pieces, (out37 past).length + 1, true, known, false) { s with heap := h', toks := k } := by
  have e : out37 (past ++ [c]) = out37 past ++ [c] := by
    unfold out37
    rw [List.filter_append, List.filter_cons_of_pos (by simpa using hc), List.filter_nil]
  refine ⟨past ++ [c], ⟨#[c]⟩ :: pieces, known, h', k, ?_, ?_, ?_, h4, rfl, h6⟩
  · rw [h1, List.append_assoc] <;> rfl
  · rw [e, List.length_append] <;> rfl
  · rw [e, List.reverse_cons, h3, List.map_append] <;> rfl
theorem Tr37.drop {x : List Nat} {s : Shared} {rest past : List Nat} {c : Nat} {pieces : List Str} {known : List (Nat × Option Nat)} {h' : Heap} {k : Nat} (hc : c = 37) (h1 : x = past ++ c :: rest)
    (h3 : pieces.reverse = (out37 past).map (fun c => (⟨#[c]⟩ : Str))) (h4 : ∀ c a, List.lookup c known = some a → a = an37 c) (h6 : ∀ b o, s.heap.get? b = some o → h'.get? b = some o) :
    Tr37 x s rest (pieces, (out37 past).length, true, known, false) { s with heap := h', toks := k } := by
  have e : out37 (past ++ [c]) = out37 past := by
    unfold out37
    rw [List.filter_append, List.filter_cons_of_neg (by simpa using hc), List.filter_nil, List.append_nil]
  refine ⟨past ++ [c], pieces, known, h', k, ?_, ?_, ?_, h4, rfl, h6⟩
  · rw [h1, List.append_assoc] <;> rfl
  · rw [e]
  · rw [e]; exact h3
theorem meets_tr37 {prog : Program} {w : World} (x : List Nat) (t : Tok) (d : Addr) (hd : (d == sysModules) = false) (hz : x.length ≤ 16000000) (ha : ∀ c ∈ x, c < 128) : MeetsIn prog w («str.translate» ⟨[.str (SX.S x) t, .ref d], []⟩) (fun A R s =>
    A.handled = none ∧ (∃ f, s.heap.MapOf (mixKind prog w) d f ∧ Tl37 (prog := prog) (w := w) f) ∧ ∀ (v : Value) (h' : Heap) (k : Nat), (∀ b o, s.heap.get? b = some o → h'.get? b = some o) → (∃ t', v = .str (SX.S (out37 x)) t') → R (.ok (.ret v)) { s with heap := h', toks := k }) := by
  refine .of_wp fun A R s h => ?_
  obtain ⟨hh, ⟨f, hm, hk⟩, h⟩ := h
  have hh1 : A.in1.handled = none := hh
  show wpAny _ _ (if ((SX.S x).length == 0) = true then (do rule "str.translate.empty"; ret (.str (SX.S x) t)) else (do
    let st ← forIn (SX.S x).cps (([], 0, (SX.S x).cps.all fun y => decide (y < 128), [], false) : List Str × Nat × Bool × List (Nat × Option Nat) × Bool) _
    _)) _ _ s
  by_cases h0 : ((SX.S x).length == 0) = true
  · rw [if_pos h0]
    have hx : x = [] := by
      rw [beq_iff_eq, SX.S_len] at h0
      exact List.eq_nil_of_length_eq_zero h0
    subst hx
    exact wpAny_bind (wpAny_rule (wpAny_pure ⟨_, rfl, h _ s.heap s.toks (fun _ _ e => e) ⟨t, rfl⟩⟩))
  · rw [if_neg h0]
    have hfast : ((SX.S x).cps.all fun y => decide (y < 128)) = true := by
      rw [← Array.all_toList]
      show (x.toArray.toList.all _) = true
      rw [List.toList_toArray, List.all_eq_true]
      exact fun c hc => decide_eq_true (ha c hc)
    rw [hfast]
    refine wpAny_bind (MeetsSeq2.wpAny_forIn_array _ (Tr37 x s) _ (fun c rest st s' hI => ?turn) (fun st s' hI => ?fin) (SX.S x).cps ([], 0, true, [], false) ?h0)
    case h0 =>
      refine ⟨[], [], [], s.heap, s.toks, ?_, rfl, rfl, fun c a z => ?_, rfl, fun _ _ e => e⟩
      · show x = [] ++ x.toArray.toList
        rw [List.toList_toArray, List.nil_append]
      · rw [List.lookup_nil] at z
        cases z
    case turn =>
      obtain ⟨past, pieces, known, h', k, e1, e2, e3, e4, e5, e6⟩ := hI
      subst e2
      subst e5
      have hpl : (out37 past).length ≤ 16000000 := by
        have q := congrArg List.length e1
        rw [List.length_append] at q
        exact Nat.le_trans (List.length_filter_le _ _) (by omega)
      have hm' : ({ s with heap := h', toks := k } : Shared).heap.MapOf (mixKind prog w) d f := mapOfK hm e6
      show wpAny _ _ (if tooLong (out37 past).length = true then _ else (if true = true then _ else _)) _ _ _
      rw [show tooLong (out37 past).length = false from PyProof.Rows.short24 (by omega), if_neg Bool.false_ne_true]
      rw [if_pos rfl]
      cases hl : List.lookup c known with
      | some a =>
        have ha2 := e4 c a hl
        subst ha2
        refine wpAny_bind (wpAny_pure ?_)
        by_cases hc : c = 37
        · have e : an37 c = none := if_pos hc
          rw [e]
          exact wpAny_pure (Tr37.drop hc e1 e3 e4 e6)
        · have e : an37 c = some c := if_neg hc
          rw [e]
          exact wpAny_pure (Tr37.keep hc e1 e3 e4 e6)
      | none =>
        have new : ∀ b, b = an37 c → ∀ c' a, List.lookup c' ((c, b) :: known) = some a → a = an37 c' := fun b hb c' a z => by
          rcases look_new z with ⟨q1, q2⟩ | q
          · rw [q2, hb, q1]
          · exact e4 c' a q
        refine wpAny_bind (tl37 hh1 hd hm' hk (fun hw h2 k2 k3 => ?_) (fun hw h2 k2 k3 => ?_))
        · have e : an37 c = none := if_pos hw
          refine wpAny_bind (wpAny_pure ?_)
          refine wpAny_pure ?_
          exact Tr37.drop (known := (c, none) :: known) hw e1 e3 (new none e.symm) (fun b o z => k3 b o (e6 b o z))
        · have e : an37 c = some c := if_neg hw
          refine wpAny_bind (wpAny_pure ?_)
          refine wpAny_pure ?_
          exact Tr37.keep (known := (c, some c) :: known) hw e1 e3 (new (some c) e.symm) (fun b o z => k3 b o (e6 b o z))
    case fin =>
      obtain ⟨past, pieces, known, h', k, e1, e2, e3, e4, e5, e6⟩ := hI
      subst e2
      subst e5
      have ex : x = past := by rw [e1, List.append_nil]
      have hl : (out37 past).length ≤ 16000000 := by
        rw [← ex]
        exact Nat.le_trans (List.length_filter_le _ _) hz
      show wpAny _ _ (if tooLong (out37 past).length = true then _ else retStr { cps := List.foldl (fun acc (p : Str) => acc ++ p.cps) #[] pieces.reverse }) _ _ _
      rw [show tooLong (out37 past).length = false from PyProof.Rows.short24 (by omega), if_neg Bool.false_ne_true, e3, pieces37, ← ex]
      have ev : (⟨#[] ++ (out37 x).toArray⟩ : Str) = SX.S (out37 x) := by
        rw [Array.empty_append] <;> rfl
      rw [ev]
      exact wpAny_bind (wpAny_mkStr (wpAny_pure ⟨_, rfl, h _ h' _ e6 ⟨_, rfl⟩⟩) (by rw [SX.S_len, sizeLine_eq, ex]; omega))
def rTr37 : V → List V → Hp → VK → Prop := fun x xs H Q => ∃ (t : Str) (d : Addr), x = .str t ∧ xs = [.ref d] ∧ H d = some (.dK [(Sum.inl 37, .non)]) ∧ (∀ c ∈ t.cps.toList, c < 128) ∧ t.length ≤ 16000000 ∧ Q (.str (SX.S (out37 t.cps.toList))) H
theorem mt_tr37 {X : Cx} (hc : X.calm = true) : MtR X "str.translate" rTr37 := by
  intro pins s σ H x xs v us Q I rx rs h
  obtain ⟨a, d, rfl, rfl, hd, ha, h3, h⟩ := h
  obtain ⟨t, rfl⟩ := rx
  obtain ⟨_, low, vs, kv, dd⟩ := dk_of I.hok hd
  cases rs with
  | cons r1 rs =>
    cases rs
    cases r1
    have ea : SX.S a.cps.toList = a := SX.S_tl a
    have hm := dd.mapOf
    have tl : Tl37 (prog := X.prog) (w := X.w) (valueAt vs) := by
      cases kv with
      | cons p r =>
        cases r
        rename_i b
        obtain ⟨k1, v1⟩ := b
        obtain ⟨e1, e2⟩ := p
        have e1 : Sum.inl 37 = k1 := e1
        have e2 : v1 = Value.none := e2
        subst e1 e2
        intro c
        unfold valueAt
        by_cases hc : c = 37
        · subst hc
          rfl
        · rw [if_neg hc]
          have hne : ¬ ((Sum.inl 37 : Key) = Sum.inl (c : Int)) := fun z => hc (by have := Sum.inl.inj z; omega)
          simp [List.find?, hne]
    rw [← ea]
    refine call_meetsIn F.slot_str_translate (typeIs_str _ _ _) F.entry_str_translate (F.args_str_translate_2 _ _) (meets_tr37 a.cps.toList t d low (by rw [Array.length_toList]; exact h3) ha) ⟨I.ok.hd hc, ⟨_, hm, tl⟩, ?_⟩
    intro v h' k hk ⟨t', e⟩
    subst e
    exact ⟨.str _, H, I.kept (t' := k) hk, ⟨t', rfl⟩, h⟩
end

/-! ### a text times an int -/
theorem op_mul_str {X : Cx} : OpR X (binaryOp .Mult) (fun x y H Q => ∃ a i, x = .str a ∧ y = .int i ∧ PySem.MulOk a i ∧ Q (.str (PySem.Txt.mul a i)) H) := fun pins s σ H x y v u Q I rx ry ⟨a, i, ex, ey, ok, q⟩ => by
  subst ex; subst ey
  obtain ⟨t, rfl⟩ := rx
  obtain ⟨t2, rfl⟩ := ry
  exact PySem.SB.mul ok (fun t' k => ⟨.str (PySem.Txt.mul a i), H, I.turnedL (ch := []) (fun _ _ _ e => e) (fun _ m => nomatch m), ⟨t', rfl⟩, q⟩)
theorem mulOk_a {n : Nat} (h : n ≤ 1000000) : PySem.MulOk (Str.ofString "a") (n : Int) := by
  refine ⟨?_, fun _ _ => ?_, fun _ _ => ?_⟩
  · rw [decide_eq_false (by omega), decide_eq_false (by omega)]; rfl
  · have e : (Str.ofString "a").length = 1 := by decide
    rw [e]
    intro z
    have : (1 : Int) ≤ (2 ^ 63 - 1) / (n : Int) := Int.le_ediv_of_mul_le (by omega) (by omega)
    omega
  · have e : (Str.ofString "a").length = 1 := by decide
    rw [e, Nat.one_mul, Int.toNat_natCast]
    unfold PySem.Builtin.Str.tooLong
    have : n ≤ sizeLine := Nat.le_trans h (by decide)
    exact decide_eq_false (by omega)
theorem mul_a {n : Nat} : (PySem.Txt.mul (Str.ofString "a") (n : Int)).cps = (List.replicate n (97 : Nat)).toArray := by
  unfold PySem.Txt.mul
  split
  · rw [show n = 0 by omega]; rfl
  · split
    · rename_i h
      have : n = 1 := by
        have e : ((Str.ofString "a").length == 0) = false := by decide
        rw [e, Bool.or_false] at h
        have := eq_of_beq h
        omega
      subst this
      decide
    · show List.foldl (fun x1 x2 => x1 ++ x2) #[] (List.replicate (n : Int).toNat (Str.ofString "a").cps) = _
      rw [Int.toNat_natCast, show (Str.ofString "a").cps = #[97] by decide]
      have : ∀ (n : Nat) (acc : Array Nat), List.foldl (fun (x1 x2 : Array Nat) => x1 ++ x2) acc (List.replicate n #[97]) = acc ++ (List.replicate n (97 : Nat)).toArray := by
        intro n
        induction n with
        | zero => intro acc; simp
        | succ n ih =>
          intro acc
          rw [List.replicate_succ, List.foldl_cons, ih, List.replicate_succ]
          apply Array.toList_inj.mp
          simp
      rw [this]
      simp

def topS (i : Nat) : Stmt := PySem.Challenge.pw_oathledger_k13_whole_broken_streams.main.body.getD i (.Pass ⟨0, 0, 0, 0⟩)
abbrev s_is_printable : Stmt := topS 2
theorem sc_is_printable : FnScope ["value"] ["value"] (defScope s_is_printable) := ⟨rfl, rfl, rfl, by decide +kernel, rfl, by decide +kernel, by decide +kernel⟩
abbrev s_is_decimal : Stmt := topS 3
theorem sc_is_decimal : FnScope ["word"] ["word"] (defScope s_is_decimal) := ⟨rfl, rfl, rfl, by decide +kernel, rfl, by decide +kernel, by decide +kernel⟩
abbrev s_Cutter____init__ : Stmt := inClass (topS 5) 0
theorem sc_Cutter____init__ : FnScope ["self"] ["self"] (defScope s_Cutter____init__) := ⟨rfl, rfl, rfl, by decide +kernel, rfl, by decide +kernel, by decide +kernel⟩
abbrev s_Cutter__feed : Stmt := inClass (topS 5) 1
theorem sc_Cutter__feed : FnScope ["self", "chunk", "texts", "at", "taken"] ["self", "chunk"] (defScope s_Cutter__feed) := ⟨rfl, rfl, rfl, by decide +kernel, rfl, by decide +kernel, by decide +kernel⟩
abbrev s_Cutter__broken : Stmt := inClass (topS 5) 2
theorem sc_Cutter__broken : FnScope ["self"] ["self"] (defScope s_Cutter__broken) := ⟨rfl, rfl, rfl, by decide +kernel, rfl, by decide +kernel, by decide +kernel⟩
abbrev s_Cutter__waiting : Stmt := inClass (topS 5) 3
theorem sc_Cutter__waiting : FnScope ["self"] ["self"] (defScope s_Cutter__waiting) := ⟨rfl, rfl, rfl, by decide +kernel, rfl, by decide +kernel, by decide +kernel⟩
abbrev s_Cutter___start_frame : Stmt := inClass (topS 5) 4
theorem sc_Cutter___start_frame : FnScope ["self"] ["self"] (defScope s_Cutter___start_frame) := ⟨rfl, rfl, rfl, by decide +kernel, rfl, by decide +kernel, by decide +kernel⟩
abbrev s_Cutter___take_length : Stmt := inClass (topS 5) 5
theorem sc_Cutter___take_length : FnScope ["self", "character"] ["self", "character"] (defScope s_Cutter___take_length) := ⟨rfl, rfl, rfl, by decide +kernel, rfl, by decide +kernel, by decide +kernel⟩
abbrev s_Cutter___take_text : Stmt := inClass (topS 5) 6
theorem sc_Cutter___take_text : FnScope ["self", "taken"] ["self", "taken"] (defScope s_Cutter___take_text) := ⟨rfl, rfl, rfl, by decide +kernel, rfl, by decide +kernel, by decide +kernel⟩
abbrev s_Cutter___take_end : Stmt := inClass (topS 5) 7
theorem sc_Cutter___take_end : FnScope ["self", "character", "text"] ["self", "character"] (defScope s_Cutter___take_end) := ⟨rfl, rfl, rfl, by decide +kernel, rfl, by decide +kernel, by decide +kernel⟩
abbrev s_Cutter___break_off : Stmt := inClass (topS 5) 8
theorem sc_Cutter___break_off : FnScope ["self"] ["self"] (defScope s_Cutter___break_off) := ⟨rfl, rfl, rfl, by decide +kernel, rfl, by decide +kernel, by decide +kernel⟩
abbrev s_is_length : Stmt := topS 6
theorem sc_is_length : FnScope ["digits"] ["digits"] (defScope s_is_length) := ⟨rfl, rfl, rfl, by decide +kernel, rfl, by decide +kernel, by decide +kernel⟩
abbrev s__law_draws : Stmt := topS 8
theorem sc__law_draws : FnScope ["script", "draws", "k", "cell", "step", "mixed"] ["script"] (defScope s__law_draws) := ⟨rfl, rfl, rfl, by decide +kernel, rfl, by decide +kernel, by decide +kernel⟩
abbrev s__law_next : Stmt := topS 9
theorem sc__law_next : FnScope ["draws", "at", "many", "index"] ["draws", "at", "many"] (defScope s__law_next) := ⟨rfl, rfl, rfl, by decide +kernel, rfl, by decide +kernel, by decide +kernel⟩
abbrev s__law_char : Stmt := topS 11
theorem sc__law_char : FnScope ["number", "chars"] ["number"] (defScope s__law_char) := ⟨rfl, rfl, rfl, by decide +kernel, rfl, by decide +kernel, by decide +kernel⟩
abbrev s__law_string : Stmt := topS 12
theorem sc__law_string : FnScope ["draws", "at", "most", "size", "first", "step", "text", "k"] ["draws", "at", "most"] (defScope s__law_string) := ⟨rfl, rfl, rfl, by decide +kernel, rfl, by decide +kernel, by decide +kernel⟩
abbrev s__law_truth : Stmt := topS 13
theorem sc__law_truth : FnScope ["actual", "expected"] ["actual", "expected"] (defScope s__law_truth) := ⟨rfl, rfl, rfl, by decide +kernel, rfl, by decide +kernel, by decide +kernel⟩
abbrev s__law_spoilt : Stmt := topS 14
theorem sc__law_spoilt : FnScope ["draws", "at", "text", "size", "choice", "char", "index"] ["draws", "at"] (defScope s__law_spoilt) := ⟨rfl, rfl, rfl, by decide +kernel, rfl, by decide +kernel, by decide +kernel⟩
abbrev s__law_fed : Stmt := topS 15
theorem sc__law_fed : FnScope ["cutter", "chunk", "due", "actual", "k"] ["cutter", "chunk", "due"] (defScope s__law_fed) := ⟨rfl, rfl, rfl, by decide +kernel, rfl, by decide +kernel, by decide +kernel⟩
abbrev s_law : Stmt := topS 16
theorem sc_law : FnScope ["script", "draws", "at", "texts", "ends", "stream", "k", "spoilt", "place", "whole", "cutter", "fed", "told", "size", "due", "broken", "index"] ["script"] (defScope s_law) := ⟨rfl, rfl, rfl, by decide +kernel, rfl, by decide +kernel, by decide +kernel⟩
structure Txt (K : PySem.W.Frag) (mg : Str → Option Value) (C_Cutter : Addr) : Prop where
  d_is_printable : DefOk K mg "is_printable" s_is_printable ["value"]
  d_is_decimal : DefOk K mg "is_decimal" s_is_decimal ["word"]
  d_is_length : DefOk K mg "is_length" s_is_length ["digits"]
  d__law_draws : DefOk K mg "_law_draws" s__law_draws ["script"]
  d__law_next : DefOk K mg "_law_next" s__law_next ["draws", "at", "many"]
  d__law_char : DefOk K mg "_law_char" s__law_char ["number"]
  d__law_string : DefOk K mg "_law_string" s__law_string ["draws", "at", "most"]
  d__law_truth : DefOk K mg "_law_truth" s__law_truth ["actual", "expected"]
  d__law_spoilt : DefOk K mg "_law_spoilt" s__law_spoilt ["draws", "at"]
  d__law_fed : DefOk K mg "_law_fed" s__law_fed ["cutter", "chunk", "due"]
  d_law : DefOk K mg "law" s_law ["script"]
  cl_Cutter : Cls K C_Cutter
  g_Cutter : mg "Cutter" = some (.ref C_Cutter)
  na_Cutter__broken : NoAttr K C_Cutter "_broken"
  na_Cutter__length : NoAttr K C_Cutter "_length"
  na_Cutter__missing : NoAttr K C_Cutter "_missing"
  na_Cutter__parts : NoAttr K C_Cutter "_parts"
  na_Cutter__held : NoAttr K C_Cutter "_held"
  mk_Cutter : MakOk K C_Cutter "Cutter.__init__" s_Cutter____init__ ["self"]
  me_Cutter__feed : MethOk K C_Cutter "feed" "Cutter.feed" s_Cutter__feed ["self", "chunk"]
  me_Cutter__broken : MethOk K C_Cutter "broken" "Cutter.broken" s_Cutter__broken ["self"]
  me_Cutter__waiting : MethOk K C_Cutter "waiting" "Cutter.waiting" s_Cutter__waiting ["self"]
  me_Cutter___start_frame : MethOk K C_Cutter "_start_frame" "Cutter._start_frame" s_Cutter___start_frame ["self"]
  me_Cutter___take_length : MethOk K C_Cutter "_take_length" "Cutter._take_length" s_Cutter___take_length ["self", "character"]
  me_Cutter___take_text : MethOk K C_Cutter "_take_text" "Cutter._take_text" s_Cutter___take_text ["self", "taken"]
  me_Cutter___take_end : MethOk K C_Cutter "_take_end" "Cutter._take_end" s_Cutter___take_end ["self", "character"]
  me_Cutter___break_off : MethOk K C_Cutter "_break_off" "Cutter._break_off" s_Cutter___break_off ["self"]
  c_MOST_LENGTH : ∃ u, mg "MOST_LENGTH" = some u ∧ RelV (.int 100000) u
  z_abs : mg "abs" = none
  z_bool : mg "bool" = none
  z_int : mg "int" = none
  z_isinstance : mg "isinstance" = none
  z_len : mg "len" = none
  z_list : mg "list" = none
  z_min : mg "min" = none
  z_range : mg "range" = none
  z_str : mg "str" = none
set_option pp.maxSteps 150
/-! ### the draws of a script -/
def Dr (H : Hp) (D A : Addr) : Prop := D ≠ A ∧ ∃ (ds : List Int) (n : Nat), H D = some (.lst (ds.map V.int)) ∧ H A = some (.lst [.int n]) ∧ (∀ d ∈ ds, 0 ≤ d ∧ d < 1000) ∧ ds.length ≤ 2520
/-- all that was tracked but A is as it was -/
def Mod (A : Addr) (H H' : Hp) : Prop := ∀ b o, b ≠ A → H b = some o → H' b = some o
theorem Mod.refl {A : Addr} {H : Hp} : Mod A H H := fun _ _ _ h => h
theorem Mod.trans {A : Addr} {H H1 H2 : Hp} (a : Mod A H H1) (b : Mod A H1 H2) : Mod A H H2 := fun c o n h => b c o n (a c o n h)
theorem Same.mod {A : Addr} {H H' : Hp} (s : Same H H') : Mod A H H' := fun b o _ h => s b o h
theorem Mod.new {A p : Addr} {o : HO} {H H' : Hp} (s : Mod A H H') (h : H' p = none) : Mod A H (upd H' p o) := fun b u n e => by
  rw [upd_ne (ne_of_none (s b u n e) h)]
  exact s b u n e
theorem Dr.new {D A p : Addr} {o : HO} {H : Hp} (d : Dr H D A) (h : H p = none) : Dr (upd H p o) D A := by
  obtain ⟨ne, ds, n, h1, h2, h3⟩ := d
  exact ⟨ne, ds, n, by rw [upd_ne (ne_of_none h1 h)]; exact h1, by rw [upd_ne (ne_of_none h2 h)]; exact h2, h3⟩
theorem Dr.same {D A : Addr} {H H' : Hp} (d : Dr H D A) (s : Same H H') : Dr H' D A := by
  obtain ⟨ne, ds, n, h1, h2, h3⟩ := d
  exact ⟨ne, ds, n, s _ _ h1, s _ _ h2, h3⟩
/-- an object that is neither D nor A is changed -/
theorem Dr.put {D A p : Addr} {o : HO} {H : Hp} (d : Dr H D A) (h1 : p ≠ D) (h2 : p ≠ A) : Dr (upd H p o) D A := by
  obtain ⟨ne, ds, n, e1, e2, h3⟩ := d
  exact ⟨ne, ds, n, by rw [upd_ne h1.symm]; exact e1, by rw [upd_ne h2.symm]; exact e2, h3⟩
theorem Dr.freshA {D A p : Addr} {H : Hp} (d : Dr H D A) (h : H p = none) : p ≠ A := by
  obtain ⟨_, _, _, _, e, _⟩ := d
  exact (ne_of_none e h).symm
theorem Dr.freshD {D A p : Addr} {H : Hp} (d : Dr H D A) (h : H p = none) : p ≠ D := by
  obtain ⟨_, _, _, e, _⟩ := d
  exact (ne_of_none e h).symm
theorem Mod.free {A p : Addr} {H H' : Hp} (s : Mod A H H') (d : ∃ o, H' A = some o) (h : H' p = none) : H p = none := by
  cases e : H p with
  | none => rfl
  | some o =>
    by_cases hp : p = A
    · subst hp
      obtain ⟨o', e'⟩ := d
      rw [e'] at h; cases h
    · rw [s p o hp e] at h; cases h
theorem Dr.A_in {D A : Addr} {H : Hp} (d : Dr H D A) : ∃ o, H A = some o := by
  obtain ⟨_, _, _, _, e, _⟩ := d
  exact ⟨_, e⟩
theorem rng_app {ds : List Int} {x : Int} (h : ∀ d ∈ ds, 0 ≤ d ∧ d < 1000) (h0 : 0 ≤ x) (h1 : x < 1000) : ∀ d ∈ ds ++ [x], 0 ≤ d ∧ d < 1000 := fun d hd => by
  rcases List.mem_append.mp hd with hd | hd
  · exact h d hd
  · rw [List.mem_singleton.mp hd]; exact ⟨h0, h1⟩

def spDraws (K : PySem.W.Frag) : Sp := fun vs H Q _ => ∃ (a : Addr) (ns : List Int), vs = [.ref a] ∧ SqL K H a (ns.map V.int) ∧ ns.length ≤ 63 ∧
  ∀ (H' : Hp) (D : Addr) (ds : List Int), Same H H' → H D = none → H' D = some (.lst (ds.map V.int)) → (∀ d ∈ ds, 0 ≤ d ∧ d < 1000) → ds.length ≤ 2520 → Q (.ref D) H'
def spNext : Sp := fun vs H Q _ => ∃ (D A : Addr) (m : Int), vs = [.ref D, .ref A, .int m] ∧ Dr H D A ∧ 1 ≤ m ∧
  ∀ (H' : Hp) (r : Int), 0 ≤ r → r < m → Mod A H H' → Dr H' D A → Q (.int r) H'
section
variable {P : Program} {w : World} {K : PySem.W.Frag} {mg : Str → Option Value} {base : Heap}
theorem c__law_next {C_Cutter : Addr} (T : Txt K mg C_Cutter) : Cal P w K mg base 1 "_law_next" spNext [] := by
  refine cal T.d__law_next sc__law_next (fun vs H Q E h => ?_) (fun f cdv A outer s H vs Q E hr h => ?_)
  · obtain ⟨D, A, m, rfl, _⟩ := h; rfl
  obtain ⟨D, A, m, rfl, dr, hm, q⟩ := h
  obtain ⟨ne, ds, n, hD, hA, hrg, hle⟩ := id dr
  refine ⟨_, (pss_cons (ps_set (i := 3) sc__law_next.nd rfl (Or.inl rfl) (pe_ix (kixl (K := K)) (pv 1) pe_int (fun _ _ => rfl)))
      (pss_cons (ps_asg (pe_op op_add (pv 3) pe_int) (pg_sub (pv 1) pe_int set_list))
      (pss_cons (ps_if (pt_cmpR op_lt (pv 3) (pe_callB (klen (K := K)) (by rfl) T.z_len (by decide +kernel) (pa_cons (pv 0) pa_nil)) (nomark _)) (pss_one (ps_ret (pe_op op_mod (pe_callTy call_int1 (by rfl) T.z_int (by decide +kernel) (pa_cons (pe_ix (kixl (K := K)) (pv 0) (pv 3) (fun _ _ => rfl)) pa_nil)) (pv 2)))) pss_nil)
      (pss_one (ps_ret pe_int))))), ?_⟩
  walk_at "rds"
  refine ⟨A, _, (0 : Int), _, rfl, rfl, sq hA, atI_nat (j := 0) rfl, ?_⟩
  walk_at "rds"
  refine ⟨A, _, (0 : Int), 0, rfl, rfl, hA, rfl, ?_⟩
  have hD' : (upd H A (.lst [.int ((n : Int) + 1)])) D = some (.lst (ds.map V.int)) := by rw [upd_ne ne]; exact hD
  have md : Mod A H (upd H A (.lst [.int ((n : Int) + 1)])) := fun b o hb e => by rw [upd_ne hb]; exact e
  have dr' : Dr (upd H A (.lst [.int ((n : Int) + 1)])) D A := ⟨ne, ds, n + 1, hD', upd_same, hrg, hle⟩
  walk_at "rds"
  refine ⟨D, _, rfl, .inl (sq hD'), ?_⟩
  walk_at "rds"
  refine ite2 (fun e => ?_) (fun e => ?_)
  · have e := of_decide_eq_true e
    rw [List.length_map] at e
    have e1 : n < ds.length := by omega
    have g : (ds.map V.int)[n]? = some (.int ds[n]) := by
      rw [List.getElem?_map, List.getElem?_eq_getElem e1]; rfl
    walk_at "rds"
    refine ⟨D, _, (n : Int), _, rfl, rfl, sq hD', atI_nat g, ?_⟩
    walk_at "rds"
    exact q _ _ (Int.emod_nonneg _ (by omega)) (Int.emod_lt_of_pos _ (by omega)) md dr'
  · exact q _ _ (by omega) (by omega) md dr'
theorem c__law_draws {C_Cutter : Addr} (T : Txt K mg C_Cutter) : Cal P w K mg base 1 "_law_draws" (spDraws K) [] := by
  refine cal T.d__law_draws sc__law_draws (fun vs H Q E h => ?_) (fun f cdv A outer s H vs Q E hr h => ?_)
  · obtain ⟨a, ns, rfl, _⟩ := h; rfl
  obtain ⟨a, ns, rfl, hS, hlen, q⟩ := h
  refine ⟨_, (pss_cons (ps_set (i := 1) sc__law_draws.nd rfl (Or.inl rfl) (pe_lst pa_nil))
      (pss_cons (ps_for PassesOwn.never rfl (pi_range1 (by rfl) T.z_range (pa_cons (pe_callB (klen (K := K)) (by rfl) T.z_len (by decide +kernel) (pa_cons (pv 0) pa_nil)) pa_nil)) (pg_name (i := 2) sc__law_draws.nd rfl (Or.inl rfl)) (pss_cons (ps_set (i := 3) sc__law_draws.nd rfl (Or.inl rfl) (pe_callB call_abs (by rfl) T.z_abs (by decide +kernel) (pa_cons (pe_ix (kixl (K := K)) (pv 0) (pv 2) (fun _ _ => rfl)) pa_nil)))
      (pss_one (ps_if (pt_cmpR op_ge (pv 3) (pe_op op_pow pe_int pe_int) (nomark _)) (pss_one (ps_for PassesOwn.never rfl (pi_range1 (by rfl) T.z_range (pa_cons pe_int pa_nil)) (pg_name (i := 4) sc__law_draws.nd rfl (Or.inl rfl)) (pss_cons (ps_expr (pe_bm PySem.F.plainAttrs_list PySem.F.slot_list_append PySem.F.type_list_append mt_append (pv 1) (pa_cons (pe_op op_mod (pe_callTy call_int1 (by rfl) T.z_int (by decide +kernel) (pa_cons (pv 3) pa_nil)) pe_int) pa_nil)))
      (pss_one (ps_set (i := 3) sc__law_draws.nd rfl (Or.inl rfl) (pe_op op_fdiv (pv 3) pe_int)))))) (pss_cons (ps_set (i := 5) sc__law_draws.nd rfl (Or.inl rfl) (pe_op op_add (pv 3) pe_int))
      (pss_one (ps_for PassesOwn.never rfl (pi_range1 (by rfl) T.z_range (pa_cons pe_int pa_nil)) (pg_name (i := 4) sc__law_draws.nd rfl (Or.inl rfl)) (pss_cons (ps_set (i := 5) sc__law_draws.nd rfl (Or.inl rfl) (pe_op op_mod (pe_callTy call_int1 (by rfl) T.z_int (by decide +kernel) (pa_cons (pe_op op_add (pe_op op_add (pe_op op_mul (pv 5) pe_int) (pe_op op_mul pe_int (pe_op op_add (pv 2) (pv 4)))) pe_int) pa_nil)) pe_int))
      (pss_cons (ps_set (i := 5) sc__law_draws.nd rfl (Or.inl rfl) (pe_op op_mod (pe_callTy call_int1 (by rfl) T.z_int (by decide +kernel) (pa_cons (pe_op op_add (pe_op op_mul (pv 5) pe_int) pe_int) pa_nil)) pe_int))
      (pss_one (ps_expr (pe_bm PySem.F.plainAttrs_list PySem.F.slot_list_append PySem.F.type_list_append mt_append (pv 1) (pa_cons (pe_op op_mod (pe_callTy call_int1 (by rfl) T.z_int (by decide +kernel) (pa_cons (pe_op op_fdiv (pv 5) pe_int) pa_nil)) pe_int) pa_nil)))))))))))))
      (pss_one (ps_ret (pv 1))))), ?_⟩
  refine ⟨by decide, fun D hD => ?_⟩
  walk_at "rds"
  refine ⟨a, _, rfl, .inl ((same_upd hD).seq hS), ?_⟩
  refine ⟨_, rfl, by rw [List.length_map]; omega, by rw [List.length_map]; omega, ?_⟩
  refine for_it walk_range (Pv := fun i σ H' => ∃ y2 y3 y4 y5 ds, σ = [some (.ref a), some (.ref D), y2, y3, y4, y5] ∧ Same H H' ∧ H' D = some (.lst (ds.map V.int)) ∧ (∀ d ∈ ds, 0 ≤ d ∧ d < 1000) ∧ ds.length ≤ 40 * i) ⟨none, none, none, none, [], rfl, same_upd hD, upd_same, by simp, by simp⟩ (fun _ _ _ _ _ => trivial) (fun i x σ H1 H2 hi hp hy => ?_) (fun σ H1 hp => ?_)
  · obtain ⟨y2, y3, y4, y5, ds, rfl, sm, hd, hrg, hl⟩ := hp
    obtain ⟨rfl, rfl⟩ := hy
    have hi' : i < ns.length := by rw [List.length_map] at hi; omega
    have g : (ns.map V.int)[i]? = some (.int ns[i]) := by
      rw [List.getElem?_map, List.getElem?_eq_getElem hi']; rfl
    have e0 : (0 : Int) + (i : Int) = (i : Int) := by omega
    walk_at "rds"
    refine ⟨a, _, (i : Int), _, rfl, by show V.int (0 + (i : Int)) = V.int i; rw [e0], sm.seq hS, atI_nat g, ?_⟩
    walk_at "rds"
    have hc0 : (0 : Int) ≤ (if ns[i] < 0 then -ns[i] else ns[i]) := by split <;> omega
    generalize (if ns[i] < 0 then -ns[i] else ns[i]) = c at hc0
    refine ite2 (fun e => ?_) (fun e => ?_)
    · refine ⟨40, rfl, by decide, by decide, ?_⟩
      refine for_it walk_range (Pv := fun j σ H' => ∃ y4 ds c, σ = [some (.ref a), some (.ref D), some (.int (0 + (i : Int))), some (.int c), y4, y5] ∧ Same H H' ∧ H' D = some (.lst (ds.map V.int)) ∧ (∀ d ∈ ds, 0 ≤ d ∧ d < 1000) ∧ ds.length ≤ 40 * i + j ∧ 0 ≤ c) ⟨y4, ds, c, rfl, sm, hd, hrg, by omega, hc0⟩ (fun _ _ _ _ _ => trivial) (fun j x σ H3 H4 hj hp hy => ?_) (fun σ H3 hp => ?_)
      · obtain ⟨z4, ds, c, rfl, sm, hd, hrg, hl, hc0⟩ := hp
        obtain ⟨rfl, rfl⟩ := hy
        refine ⟨.ref D, rfl, .inl ⟨rfl, _, sq hd⟩, ?_⟩
        walk_at "rds"
        have hj' : j < 40 := hj
        refine ⟨_, _, _, rfl, rfl, hd, by rw [List.length_map]; exact sz1000' (by omega), ?_⟩
        refine ⟨_, rfl, _, _, rfl, rfl, ⟨by decide, by decide⟩, ?_⟩
        refine ⟨_, ds ++ [c % 1000], c / 1000, rfl, same_mut sm hD, lst_app, rng_app hrg (by omega) (by omega), ?_, by omega⟩
        rw [List.length_append, List.length_singleton]; omega
      · obtain ⟨z4, ds, c, rfl, sm, hd, hrg, hl, hc0⟩ := hp
        exact ⟨_, _, _, _, ds, rfl, sm, hd, hrg, by have : (40 : Int).toNat = 40 := rfl; omega⟩
    · have hc1 : c < 10 ^ 18 := by
        have : ¬ ((10 : Int) ^ (18 : Int).toNat ≤ c) := fun z => e (decide_eq_true z)
        have e18 : (10 : Int) ^ (18 : Int).toNat = 10 ^ 18 := rfl
        omega
      walk_at "rds"
      refine for_it walk_range (Pv := fun j σ H' => ∃ y4 ds m, σ = [some (.ref a), some (.ref D), some (.int (0 + (i : Int))), some (.int c), y4, some (.int m)] ∧ Same H H' ∧ H' D = some (.lst (ds.map V.int)) ∧ (∀ d ∈ ds, 0 ≤ d ∧ d < 1000) ∧ ds.length ≤ 40 * i + j ∧ 0 ≤ m ∧ m ≤ 10 ^ 18) ⟨y4, ds, _, rfl, sm, hd, hrg, by omega, by omega, by omega⟩ (fun _ _ _ _ _ => trivial) (fun j x σ H3 H4 hj hp hy => ?_) (fun σ H3 hp => ?_)
      · obtain ⟨z4, ds, m, rfl, sm, hd, hrg, hl, hm0, hm1⟩ := hp
        obtain ⟨rfl, rfl⟩ := hy
        have hj' : j < 8 := hj
        walk_at "rds"
        refine ⟨.inl ⟨rfl, _, sq hd⟩, ?_⟩
        walk_at "rds"
        refine ⟨_, _, _, rfl, rfl, hd, by rw [List.length_map]; exact sz1000' (by omega), ?_⟩
        refine ⟨_, ds ++ [_], _, rfl, same_mut sm hD, lst_app, rng_app hrg (by omega) (by omega), ?_, by omega, by omega⟩
        rw [List.length_append, List.length_singleton]; omega
      · obtain ⟨z4, ds, m, rfl, sm, hd, hrg, hl, hm0, hm1⟩ := hp
        exact ⟨_, _, _, _, ds, rfl, sm, hd, hrg, by have : (8 : Int).toNat = 8 := rfl; omega⟩
  · obtain ⟨y2, y3, y4, y5, ds, rfl, sm, hd, hrg, hl⟩ := hp
    refine ⟨.ref D, rfl, ?_⟩
    refine q _ _ _ sm hD hd hrg ?_
    rw [List.length_map] at hl; omega
end

/-! ### drawn numbers and strings -/
def prC (c : Nat) : Bool := decide (32 ≤ c) && decide (c ≤ 126) && decide (c ≠ 37)
def isPr (z : Str) : Bool := z.cps.toList.all prC
theorem app_tl (a b : Str) : (a ++ b).cps.toList = a.cps.toList ++ b.cps.toList := by
  show (a.cps ++ b.cps).toList = _
  rw [Array.toList_append]
theorem len_tl (z : Str) : z.cps.toList.length = z.length := Array.length_toList
theorem isPr_app (a b : Str) : isPr (a ++ b) = (isPr a && isPr b) := by
  unfold isPr
  rw [app_tl, List.all_append]

def spChar : Sp := fun vs H Q _ => ∃ (n : Int), vs = [.int n] ∧ ∀ c : Nat, prC c = true → Q (.str ⟨#[c]⟩) H
def spString : Sp := fun vs H Q _ => ∃ (D A : Addr) (m : Int), vs = [.ref D, .ref A, .int m] ∧ Dr H D A ∧ 5 ≤ m ∧ m ≤ 1000000 ∧
  ∀ (H' : Hp) (z : Str), z.length ≤ m → isPr z = true → Mod A H H' → Dr H' D A → Q (.str z) H'
section
variable {P : Program} {w : World} {K : PySem.W.Frag} {mg : Str → Option Value} {base : Heap}
theorem c__law_char {C_Cutter : Addr} (T : Txt K mg C_Cutter) : Cal P w K mg base 1 "_law_char" spChar [] := by
  refine cal T.d__law_char sc__law_char (fun vs H Q E h => ?_) (fun f cdv A' outer s H vs Q E hr h => ?_)
  · obtain ⟨n, rfl, _⟩ := h; rfl
  obtain ⟨n, rfl, q⟩ := h
  refine ⟨_, (pss_cons (ps_set (i := 1) sc__law_char.nd rfl (Or.inl rfl) pe_str)
      (pss_cons (ps_set (i := 1) sc__law_char.nd rfl (Or.inl rfl) (pe_op op_add_str (pv 1) pe_str))
      (pss_one (ps_ret (pe_ix ix_str (pv 1) (pe_op op_mod (pe_callTy call_int1 (by rfl) T.z_int (by decide +kernel) (pa_cons (pv 0) pa_nil)) pe_int) (fun _ _ => rfl)))))), ?_⟩
  walk_at "rds"
  have e94 : ∀ z : Str, z = Str.ofString " !\"#$&'()*+,-./0123456789:;<=>?@ABCDEFGHIJKLMNOPQRSTUVWXYZ[\\]^_`" ++ Str.ofString "abcdefghijklmnopqrstuvwxyz{|}~" → z.length = 94 ∧ isPr z = true := by
    intro z e; subst e; exact ⟨by decide +kernel, by decide +kernel⟩
  generalize Str.ofString " !\"#$&'()*+,-./0123456789:;<=>?@ABCDEFGHIJKLMNOPQRSTUVWXYZ[\\]^_`" ++ Str.ofString "abcdefghijklmnopqrstuvwxyz{|}~" = z at e94
  obtain ⟨hz, hp⟩ := e94 z rfl
  obtain ⟨c, hc⟩ := chr_at (z := z) (i := n % 94) (by omega) (by rw [hz]; omega)
  have hm : c ∈ z.cps.toList := by
    obtain ⟨j, _, e, _⟩ := atI_get hc
    exact List.mem_of_getElem? e
  refine ⟨_, _, c, rfl, rfl, by rw [hz]; exact sz1000 (by omega), hc, ?_⟩
  exact q c (List.all_eq_true.mp hp c hm)
theorem c__law_string {C_Cutter : Addr} (T : Txt K mg C_Cutter) : Cal P w K mg base 2 "_law_string" spString [] := by
  have c__law_next := c__law_next (P := P) (w := w) (base := base) T
  have c__law_char := c__law_char (P := P) (w := w) (base := base) T
  refine cal T.d__law_string sc__law_string (fun vs H Q E h => ?_) (fun f cdv A' outer s H vs Q E hr h => ?_)
  · obtain ⟨D, A, m, rfl, _⟩ := h; rfl
  obtain ⟨D, A, m, rfl, dr, hm, hm2, q⟩ := h
  refine ⟨_, (pss_cons (ps_set (i := 3) sc__law_string.nd rfl (Or.inl rfl) (pe_c c__law_next hr (by decide) (by rfl) (pa_cons (pv 0) (pa_cons (pv 1) (pa_cons pe_int pa_nil)))))
      (pss_cut (ps_if (pt_cmpR op_eq (pe_c c__law_next hr (by decide) (by rfl) (pa_cons (pv 0) (pa_cons (pv 1) (pa_cons pe_int pa_nil)))) pe_int (nomark _)) (pss_one (ps_set (i := 3) sc__law_string.nd rfl (Or.inl rfl) (pe_c c__law_next hr (by decide) (by rfl) (pa_cons (pv 0) (pa_cons (pv 1) (pa_cons (pe_op op_add (pv 2) pe_int) pa_nil)))))) pss_nil)
      (pss_cut (ps_if (pt_cmpR op_eq (pe_c c__law_next hr (by decide) (by rfl) (pa_cons (pv 0) (pa_cons (pv 1) (pa_cons pe_int pa_nil)))) pe_int (nomark _)) (pss_one (ps_set (i := 3) sc__law_string.nd rfl (Or.inl rfl) (pv 2))) pss_nil)
      (pss_cons (ps_set (i := 4) sc__law_string.nd rfl (Or.inl rfl) (pe_c c__law_next hr (by decide) (by rfl) (pa_cons (pv 0) (pa_cons (pv 1) (pa_cons pe_int pa_nil)))))
      (pss_cons (ps_set (i := 5) sc__law_string.nd rfl (Or.inl rfl) (pe_c c__law_next hr (by decide) (by rfl) (pa_cons (pv 0) (pa_cons (pv 1) (pa_cons pe_int pa_nil)))))
      (pss_cons (ps_set (i := 6) sc__law_string.nd rfl (Or.inl rfl) pe_str)
      (pss_cons (ps_for PassesOwn.never rfl (pi_range1 (by rfl) T.z_range (pa_cons (pv 3) pa_nil)) (pg_name (i := 7) sc__law_string.nd rfl (Or.inl rfl)) (pss_one (ps_if (pt_cmpR op_lt (pv 7) pe_int (nomark _)) (pss_one (ps_set (i := 6) sc__law_string.nd rfl (Or.inl rfl) (pe_op op_add_str (pv 6) (pe_c c__law_char hr (by decide) (by rfl) (pa_cons (pe_c c__law_next hr (by decide) (by rfl) (pa_cons (pv 0) (pa_cons (pv 1) (pa_cons pe_int pa_nil)))) pa_nil))))) (pss_one (ps_set (i := 6) sc__law_string.nd rfl (Or.inl rfl) (pe_op op_add_str (pv 6) (pe_c c__law_char hr (by decide) (by rfl) (pa_cons (pe_op op_add (pv 4) (pe_op op_mul (pv 5) (pv 7))) pa_nil))))))))
      (pss_one (ps_ret (pv 6)))))))))), ?_⟩
  walk_at "rds"
  refine ⟨D, A, 6, rfl, dr, by decide, fun H1 s1 s10 s11 md1 dr1 => ?_⟩
  obtain ⟨s1, rfl⟩ := Int.eq_ofNat_of_zero_le s10
  refine ⟨fun σ' H' => ∃ n : Nat, σ' = [some (.ref D), some (.ref A), some (.int m), some (.int n), none, none, none, none] ∧ (n : Int) ≤ m ∧ Mod A H H' ∧ Dr H' D A, ?_, ?_⟩
  · walk_at "rds"
    refine ⟨D, A, 7, rfl, dr1, by decide, fun H2 s2 s20 s21 md2 dr2 => ?_⟩
    walk_at "rds"
    refine ite2 (fun _ => ?_) (fun _ => ?_)
    · walk_at "rds"
      refine ⟨D, A, _, rfl, dr2, by omega, fun H3 s3 s30 s31 md3 dr3 => ?_⟩
      obtain ⟨s3, rfl⟩ := Int.eq_ofNat_of_zero_le s30
      exact ⟨s3, rfl, by omega, (md1.trans md2).trans md3, dr3⟩
    · exact ⟨s1, rfl, by omega, md1.trans md2, dr2⟩
  rintro σ' H2 ⟨n, rfl, hn, md2, dr2⟩
  refine ⟨fun σ' H' => ∃ n : Nat, σ' = [some (.ref D), some (.ref A), some (.int m), some (.int n), none, none, none, none] ∧ (n : Int) ≤ m ∧ Mod A H H' ∧ Dr H' D A, ?_, ?_⟩
  · walk_at "rds"
    refine ⟨D, A, 9, rfl, dr2, by decide, fun H3 s3 s30 s31 md3 dr3 => ?_⟩
    walk_at "rds"
    obtain ⟨m, rfl⟩ := Int.eq_ofNat_of_zero_le (show 0 ≤ m by omega)
    refine ite2 (fun _ => ?_) (fun _ => ?_)
    · walk_at "rds"
      exact ⟨m, rfl, by omega, md2.trans md3, dr3⟩
    · exact ⟨n, rfl, by omega, md2.trans md3, dr3⟩
  rintro σ' H3 ⟨n, rfl, hn, md3, dr3⟩
  walk_at "rds"
  refine ⟨D, A, 94, rfl, dr3, by decide, fun H4 f1 f10 f11 md4 dr4 => ?_⟩
  walk_at "rds"
  refine ⟨D, A, 3, rfl, dr4, by decide, fun H5 f2 f20 f21 md5 dr5 => ?_⟩
  walk_at "rds"
  refine for_it walk_range (Pv := fun i σ H' => ∃ (z : Str) (y : Option V), σ = [some (.ref D), some (.ref A), some (.int m), some (.int n), some (.int f1), some (.int f2), some (.str z), y] ∧ z.length = i ∧ isPr z = true ∧ Mod A H H' ∧ Dr H' D A) ⟨Str.ofString "", none, rfl, by decide, by decide, (md3.trans md4).trans md5, dr5⟩ (fun _ _ _ _ _ => trivial) (fun i x σ H6 H7 hi hp hy => ?_) (fun σ H6 hp => ?_)
  · obtain ⟨z, y, rfl, hz, hpz, md, dr⟩ := hp
    obtain ⟨rfl, rfl⟩ := hy
    have hi' : i < n := by omega
    have one : ∀ c : Nat, prC c = true → (z ++ ⟨#[c]⟩ : Str).length = i + 1 ∧ isPr (z ++ ⟨#[c]⟩) = true := fun c hc => by
      refine ⟨by rw [Str.length_append, hz]; rfl, ?_⟩
      rw [isPr_app, hpz]
      show (true && List.all [c] prC) = true
      rw [List.all_cons, hc]; rfl
    walk_at "rds"
    refine ite2 (fun _ => ?_) (fun _ => ?_)
    · walk_at "rds"
      refine ⟨D, A, 94, rfl, dr, by decide, fun H8 f3 f30 f31 md8 dr8 => ?_⟩
      refine ⟨f3, rfl, fun c hc => ?_⟩
      have l1 : (⟨#[c]⟩ : Str).length = 1 := rfl
      refine ⟨_, _, rfl, rfl, by rw [l1]; exact sz1000'' (by omega), ?_⟩
      exact ⟨_, _, rfl, (one c hc).1, (one c hc).2, md.trans md8, dr8⟩
    · walk_at "rds"
      intro c hc
      have l1 : (⟨#[c]⟩ : Str).length = 1 := rfl
      refine ⟨_, _, rfl, rfl, by rw [l1]; exact sz1000'' (by omega), ?_⟩
      exact ⟨_, _, rfl, (one c hc).1, (one c hc).2, md, dr⟩
  · obtain ⟨z, y, rfl, hz, hpz, md, dr⟩ := hp
    walk_at "rds"
    exact q _ z (by omega) hpz md dr
end

def NoStr (K : PySem.W.Frag) (H : Hp) (v : V) : Prop := ∃ T, TyX K H v (.type T) ∧ kitB T "str" = some false
def spPrint (K : PySem.W.Frag) : Sp := fun vs H Q _ => ∃ (v : V), vs = [v] ∧ ((∃ z : Str, v = .str z ∧ z.length ≤ 16000000 ∧ ∀ H', Same H H' → Q (.bl (isPr z)) H') ∨ (NoStr K H v ∧ Q (.bl false) H))
theorem print128 : ∀ c : Nat, c < 128 → (Unicode.isPrintable c = true ↔ (32 ≤ c ∧ c ≤ 126)) := by
  intro c hc
  have h : ∀ c : Fin 128, (Unicode.isPrintable c.val = true ↔ (32 ≤ c.val ∧ c.val ≤ 126)) := by decide +kernel
  exact h ⟨c, hc⟩
theorem asc_list {z : Str} : Txt.isascii z = true ↔ ∀ c ∈ z.cps.toList, c < 128 := by
  unfold Txt.isascii
  rw [← Array.all_toList, List.all_eq_true]
  simp
theorem pri_list {z : Str} : Txt.isprintable z = true ↔ ∀ c ∈ z.cps.toList, Unicode.isPrintable c = true := by
  unfold Txt.isprintable
  rw [← Array.all_toList, List.all_eq_true]
theorem isPr_iff {z : Str} : isPr z = true ↔ ∀ c ∈ z.cps.toList, 32 ≤ c ∧ c ≤ 126 ∧ c ≠ 37 := by
  unfold isPr
  rw [List.all_eq_true]
  simp [prC, and_assoc]
theorem out37_len {l : List Nat} : (out37 l).length = l.length ↔ ∀ c ∈ l, c ≠ 37 := by
  unfold out37
  rw [List.length_filter_eq_length_iff]
  simp
section
variable {P : Program} {w : World} {K : PySem.W.Frag} {mg : Str → Option Value} {base : Heap}
theorem c_is_printable {C_Cutter : Addr} (T : Txt K mg C_Cutter) : Cal P w K mg base 1 "is_printable" (spPrint K) [] := by
  refine cal T.d_is_printable sc_is_printable (fun vs H Q E h => ?_) (fun f cdv A outer s H vs Q E hr h => ?_)
  · obtain ⟨v, rfl, _⟩ := h; rfl
  obtain ⟨v, rfl, h⟩ := h
  refine ⟨_, (pss_cons (ps_if (PW.pt (pw_or (pt_not (pt_val (pe_callB (kisi (K := K)) (by rfl) T.z_isinstance (by decide +kernel) (pa_cons (pv 0) (pa_cons (pe_bltn (v := .ty "str") (by rfl) T.z_str (by decide +kernel) rfl) pa_nil))))) (pw_or (pt_not (pt_val (pe_bm0 PySem.F.plainAttrs_str PySem.F.slot_str_isascii PySem.F.type_str_isascii mt_isascii (pv 0)))) (pw_or1 (pt_not (pt_val (pe_bm0 PySem.F.plainAttrs_str PySem.F.slot_str_isprintable PySem.F.type_str_isprintable mt_isprintable (pv 0)))))))) (pss_one (ps_ret pe_bl)) pss_nil)
      (pss_one (ps_ret (pe_cmpR op_eq (pe_callB call_len_str (by rfl) T.z_len (by decide +kernel) (pa_cons (pe_bm PySem.F.plainAttrs_str PySem.F.slot_str_translate PySem.F.type_str_translate (mt_tr37 rfl) (pv 0) (pa_cons (pe_disp (pps_cons pe_int pe_non pps_nil) rfl rfl (by intro z; cases z) (by decide)) pa_nil)) pa_nil)) (pe_callB call_len_str (by rfl) T.z_len (by decide +kernel) (pa_cons (pv 0) pa_nil)) (nomark _))))), ?_⟩
  rcases h with ⟨z, rfl, hz, q⟩ | ⟨⟨T, ty, hk⟩, q⟩
  · walk_at "rds"
    walk_at "isi"
    walk_at "rds"
    refine ⟨rfl, _, rfl, rfl, trivial, ?_⟩
    walk_at "rds"
    cases ha : Txt.isascii z with
    | false =>
      have e : isPr z = false := by
        cases e : isPr z with
        | false => rfl
        | true =>
          have := asc_list.mpr (fun c hc => by have := isPr_iff.mp e c hc; omega)
          rw [ha] at this; cases this
      rw [e] at q
      walk_at "rds"
      exact q H (Same.refl H)
    | true =>
      have ha := asc_list.mp ha
      walk_at "rds"
      refine ⟨rfl, _, rfl, rfl, trivial, ?_⟩
      walk_at "rds"
      cases hp : Txt.isprintable z with
      | false =>
        have e : isPr z = false := by
          cases e : isPr z with
          | false => rfl
          | true =>
            have := pri_list.mpr (fun c hc => by have := isPr_iff.mp e c hc; exact (print128 c (by omega)).mpr ⟨by omega, by omega⟩)
            rw [hp] at this; cases this
        rw [e] at q
        walk_at "rds"
        exact q H (Same.refl H)
      | true =>
        have hp := pri_list.mp hp
        walk_at "rds"
        refine ⟨rfl, fun p np => ?_⟩
        refine ⟨upd_same, [(Sum.inl 37, .non)], rfl, by decide, ?_⟩
        refine ⟨z, p, rfl, rfl, upd_same, ha, hz, ?_⟩
        have l37 : (SX.S (out37 z.cps.toList)).length ≤ 16000000 := by
          rw [SX.S_len]
          exact Nat.le_trans (List.length_filter_le _ _) (by rw [len_tl]; exact hz)
        walk_at "rds"
        have e : decide (V.int ((SX.S (out37 z.cps.toList)).length : Int) = V.int (z.length : Int)) = isPr z := by
          rw [SX.S_len]
          have hl := @out37_len z.cps.toList
          rw [len_tl] at hl
          cases e : isPr z with
          | true =>
            refine decide_eq_true ?_
            rw [hl.mpr (fun c hc => (isPr_iff.mp e c hc).2.2)]
          | false =>
            refine decide_eq_false fun z' => ?_
            have h1 := hl.mp (Int.ofNat.inj (V.int.inj z'))
            have : isPr z = true := isPr_iff.mpr (fun c hc => ⟨((print128 c (ha c hc)).mp (hp c hc)).1, ((print128 c (ha c hc)).mp (hp c hc)).2, h1 c hc⟩)
            rw [e] at this; cases this
        rw [← e] at q
        exact q _ (same_mut (same_upd np) np)
  · walk_at "rds"
    refine ⟨_, .ty _, _, _, false, rfl, .ty _, ty, kit_ty hk, ?_⟩
    walk_at "rds"
    exact q
end

/-! ### x is True, x is False, whatever x is -/
section
variable {X : Cx}
theorem op_isB : OpR X (compareOp .Is) (fun x y H Q => ∃ b : Bool, y = .bl b ∧ Q (.bl (decide (x = .bl b))) H) := by
  intro pins s σ H x y v u Q I rx ry h
  obtain ⟨b, rfl, q⟩ := h
  cases (show u = Value.bool b from ry)
  cases x with
  | non => cases rx; exact wpAny_is_plain rfl ⟨.bl false, H, I, rfl, by simpa using q⟩
  | bl a =>
    cases (show v = Value.bool a from rx)
    refine wpAny_is_plain rfl ⟨.bl (decide (a = b)), H, I, ?_, by simpa using q⟩
    cases a <;> cases b <;> rfl
  | int i => obtain ⟨t, rfl⟩ := rx; exact wpAny_is_plain rfl ⟨.bl false, H, I, rfl, by simpa using q⟩
  | str i => obtain ⟨t, rfl⟩ := rx; exact wpAny_is_plain rfl ⟨.bl false, H, I, rfl, by simpa using q⟩
  | byt i => obtain ⟨t, rfl⟩ := rx; exact wpAny_is_plain rfl ⟨.bl false, H, I, rfl, by simpa using q⟩
  | flt i => obtain ⟨t, rfl⟩ := rx; exact wpAny_is_plain rfl ⟨.bl false, H, I, rfl, by simpa using q⟩
  | ref i => cases rx; exact wpAny_is_plain rfl ⟨.bl false, H, I, rfl, by simpa using q⟩
  | ty i => cases rx; exact wpAny_is_plain rfl ⟨.bl false, H, I, rfl, by simpa using q⟩
/-- len of a text, a list or a tuple -/
def rLenM (K : PySem.W.Frag) : List V → Hp → VK → Prop := fun xs H Q => (∃ z, xs = [V.str z] ∧ z.length ≤ sizeLine ∧ Q (.int z.length) H) ∨ rLenK K xs H Q
theorem klenM {K : PySem.W.Frag} (h : X.K = K := by rfl) : CallR X (.builtin "len") (rLenM K) := fun pins s σ H xs us Q I rv q => q.elim (call_len_str pins s σ H xs us Q I rv) (klen h pins s σ H xs us Q I rv)
end

/-! ### is_decimal -/
def dg (c : Nat) : Bool := decide (48 ≤ c) && decide (c ≤ 57)
/-- a number in decimal digits, by its codes -/
def dcL (l : List Nat) : Bool := !l.isEmpty && l.all dg && (l == [48] || l.head? != some 48)
def inL (l ch : List Nat) : Bool := l.all fun c => decide (c ∈ ch)
theorem digit128 : ∀ c : Nat, c < 128 → Unicode.isDigit c = dg c := by
  intro c hc
  have h : ∀ c : Fin 128, Unicode.isDigit c.val = dg c.val := by decide +kernel
  exact h ⟨c, hc⟩
theorem dg_lt {c : Nat} (h : dg c = true) : 48 ≤ c ∧ c ≤ 57 := by
  unfold dg at h
  rw [Bool.and_eq_true] at h
  exact ⟨of_decide_eq_true h.1, of_decide_eq_true h.2⟩
theorem all_digits {z : Str} (ha : Txt.isascii z = true) : Txt.isdigit z = (!z.cps.toList.isEmpty && z.cps.toList.all dg) := by
  unfold Txt.isdigit
  have h := asc_list.mp ha
  rw [← Array.all_toList]
  have e1 : decide (z.length > 0) = !z.cps.toList.isEmpty := by
    rw [← len_tl]
    cases z.cps.toList <;> simp
  rw [e1]
  congr 1
  revert h
  generalize z.cps.toList = l
  intro h
  induction l with
  | nil => rfl
  | cons c r ih =>
    rw [List.all_cons, List.all_cons, digit128 c (h c List.mem_cons_self), ih (fun d hd => h d (List.mem_cons_of_mem _ hd))]
theorem dcL_asc {z : Str} (h : Txt.isascii z = false) : dcL z.cps.toList = false := by
  cases e : dcL z.cps.toList with
  | false => rfl
  | true =>
    unfold dcL at e
    rw [Bool.and_eq_true, Bool.and_eq_true] at e
    have := asc_list.mpr (fun c hc => by have := dg_lt (List.all_eq_true.mp e.1.2 c hc); omega)
    rw [h] at this; cases this
theorem str_eq_l {a b : Str} : a = b ↔ a.cps.toList = b.cps.toList := by
  constructor
  · rintro rfl; rfl
  · intro h
    cases a; cases b
    simp only [Str.mk.injEq]
    exact Array.toList_inj.mp h
def spStrB (K : PySem.W.Frag) (f : List Nat → Bool) : Sp := fun vs H Q _ => ∃ (z : Str), vs = [.str z] ∧ z.length ≤ 10000 ∧ ∀ H', Same H H' → Q (.bl (f z.cps.toList)) H'
section
variable {P : Program} {w : World} {K : PySem.W.Frag} {mg : Str → Option Value} {base : Heap}
theorem c_is_decimal {C_Cutter : Addr} (T : Txt K mg C_Cutter) : Cal P w K mg base 1 "is_decimal" (spStrB K dcL) [] := by
  refine cal T.d_is_decimal sc_is_decimal (fun vs H Q E h => ?_) (fun f cdv A' outer s H vs Q E hr h => ?_)
  · obtain ⟨z, rfl, _⟩ := h; rfl
  obtain ⟨z, rfl, hz, q⟩ := h
  refine ⟨_, (pss_one (ps_ret (pe_and (pe_bm0 PySem.F.plainAttrs_str PySem.F.slot_str_isascii PySem.F.type_str_isascii mt_isascii (pv 0)) (pe_and (pe_bm0 PySem.F.plainAttrs_str PySem.F.slot_str_isdigit PySem.F.type_str_isdigit mt_isdigit (pv 0)) (pe_one (pe_or (pe_cmpR op_eq (pv 0) pe_str (nomark _)) (pe_one (pe_cmpR op_ne (pe_ix ix_str (pv 0) pe_int (fun _ _ => rfl)) pe_str (nomark _))))))))), ?_⟩
  have q := q H (Same.refl H)
  walk_at "rds"
  refine ⟨rfl, _, rfl, rfl, trivial, ?_⟩
  walk_at "rds"
  cases ha : Txt.isascii z with
  | false =>
    rw [dcL_asc ha] at q
    refine ifF rfl ?_
    exact q
  | true =>
    refine ifT rfl ?_
    walk_at "rds"
    refine ⟨rfl, _, rfl, rfl, trivial, ?_⟩
    walk_at "rds"
    rw [all_digits ha]
    cases hd : (!z.cps.toList.isEmpty && z.cps.toList.all dg) with
    | false =>
      have e : dcL z.cps.toList = false := by unfold dcL; rw [hd]; rfl
      rw [e] at q
      refine ifF rfl ?_
      exact q
    | true =>
      have e : dcL z.cps.toList = (z.cps.toList == [48] || z.cps.toList.head? != some 48) := by unfold dcL; rw [hd]; rfl
      rw [e] at q
      refine ifT rfl ?_
      walk_at "rds"
      have l0 : (Str.ofString "0").cps.toList = [48] := by decide
      refine ite2 (fun e0 => ?_) (fun e0 => ?_)
      · have e0 : z = Str.ofString "0" := V.str.inj (of_decide_eq_true e0)
        rw [e0, l0] at q
        exact q
      · have e0 : ¬ z = Str.ofString "0" := fun h => e0 (decide_eq_true (by rw [h]))
        have e1 : z.cps.toList ≠ [48] := fun h => e0 (str_eq_l.mpr (h.trans l0.symm))
        obtain ⟨c, r, hl⟩ : ∃ c r, z.cps.toList = c :: r := by
          cases hl : z.cps.toList with
          | nil => rw [hl] at hd; simp at hd
          | cons c r => exact ⟨c, r, rfl⟩
        have h0 : atI z.cps.toList 0 = some c := atI_nat (j := 0) (by rw [hl]; rfl)
        walk_at "rds"
        refine ⟨z, _, c, rfl, rfl, sz1000 (by omega), h0, ?_⟩
        walk_at "rds"
        have e2 : (z.cps.toList == [48]) = false := by simpa using e1
        rw [e2, hl, Bool.false_or] at q
        have e3 : (!decide (V.str ⟨#[c]⟩ = V.str (Str.ofString "0"))) = ((c :: r).head? != some 48) := by
          by_cases h : c = 48
          · subst h; rfl
          · rw [decide_eq_false (fun z => h (by
              have := congrArg (fun v => match v with | V.str s => s.cps.toList | _ => []) z
              have : [c] = [48] := this
              simpa using this))]
            simp [h]
        rw [← e3] at q
        exact q
end

/-! ### numbers have one form -/
def prL (l : List Nat) : Bool := l.all prC
theorem dg_all {l : List Nat} (h : l.all dg = true) : PySem.NumText.AllDigits l := fun c hc => dg_lt (List.all_eq_true.mp h c hc)
theorem digitsVal_snoc (l : List Nat) (c : Nat) : PySem.NumText.digitsVal (l ++ [c]) = PySem.NumText.digitsVal l * 10 + (c - 48) := by
  unfold PySem.NumText.digitsVal
  rw [List.foldl_append]; rfl
theorem numL_back : ∀ (n : Nat) (l : List Nat), l.length = n → l ≠ [] → PySem.NumText.AllDigits l → (l = [48] ∨ l.head? ≠ some 48) → TL.numL (PySem.NumText.digitsVal l) = l := by
  intro n
  induction n with
  | zero => intro l h1 h2; exact absurd (List.length_eq_zero_iff.mp h1) h2
  | succ n ih =>
    intro l h1 h2 h3 h4
    obtain ⟨q, c, rfl⟩ : ∃ q c, l = q ++ [c] := ⟨_, _, (List.dropLast_concat_getLast h2).symm⟩
    have hc := h3 c (by simp)
    rw [digitsVal_snoc]
    cases q with
    | nil =>
      show TL.numL (0 * 10 + (c - 48)) = [c]
      rw [TL.numL_lt (by omega)]
      exact congrArg (· :: []) (by omega)
    | cons a r =>
      have ha := h3 a (by simp)
      have hd : a ≠ 48 := by
        rintro rfl
        rcases h4 with h4 | h4
        · simp at h4
        · exact h4 rfl
      have ih := ih (a :: r) (by simpa using h1) (by simp) (fun d m => h3 d (by simp only [List.mem_append]; exact .inl m)) (.inr (by simpa using hd))
      have hp : 1 ≤ PySem.NumText.digitsVal (a :: r) := by
        cases e : PySem.NumText.digitsVal (a :: r) with
        | zero =>
          rw [e, TL.numL_lt (by omega)] at ih
          injection ih with e1 _
          omega
        | succ k => omega
      rw [TL.numL_step (by omega)]
      rw [show (PySem.NumText.digitsVal (a :: r) * 10 + (c - 48)) / 10 = PySem.NumText.digitsVal (a :: r) by omega, ih,
        show 48 + (PySem.NumText.digitsVal (a :: r) * 10 + (c - 48)) % 10 = c by omega]
theorem dcL_iff {l : List Nat} : dcL l = true ↔ l ≠ [] ∧ PySem.NumText.AllDigits l ∧ (l = [48] ∨ l.head? ≠ some 48) := by
  unfold dcL
  rw [Bool.and_eq_true, Bool.and_eq_true, Bool.or_eq_true]
  constructor
  · rintro ⟨⟨a, b⟩, c⟩
    refine ⟨fun z => (by rw [z] at a; cases a), dg_all b, c.imp (fun z => eq_of_beq z) (fun z y => by rw [y] at z; simp at z)⟩
  · rintro ⟨a, b, c⟩
    refine ⟨⟨by cases l; exact absurd rfl a; rfl, List.all_eq_true.mpr fun x hx => by have := b x hx; unfold dg; rw [decide_eq_true this.1, decide_eq_true this.2]; rfl⟩, ?_⟩
    rcases c with c | c
    · exact .inl (by rw [c]; rfl)
    · exact .inr (by simpa using c)
theorem dcL_num {l : List Nat} (h : dcL l = true) : TL.numL (PySem.NumText.digitsVal l) = l := by
  obtain ⟨a, b, c⟩ := dcL_iff.mp h
  exact numL_back _ l rfl a b c
theorem numL_head {n : Nat} (h : 10 ≤ n) : ∃ a r, TL.numL n = a :: r ∧ a ≠ 48 := by
  induction n using Nat.strongRecOn with
  | _ n ih =>
    rw [TL.numL_step h]
    by_cases g : n / 10 < 10
    · rw [TL.numL_lt g]
      exact ⟨_, _, rfl, by omega⟩
    · obtain ⟨a, r, e, ha⟩ := ih (n / 10) (by omega) (by omega)
      rw [e]
      exact ⟨a, _, rfl, ha⟩
theorem num_dcL (n : Nat) : dcL (TL.numL n) = true := by
  refine dcL_iff.mpr ⟨TL.numL_ne n, TL.numL_digits n, ?_⟩
  by_cases h : n < 10
  · rw [TL.numL_lt h]
    by_cases z : n = 0
    · subst z; exact .inl rfl
    · exact .inr (by simpa using z)
  · obtain ⟨a, r, e, ha⟩ := numL_head (n := n) (by omega)
    rw [e]
    exact .inr (by simpa using ha)

/-! ### texts joined by nothing -/
theorem len_app2 (a b : Str) : (a ++ b).length = a.length + b.length := Str.length_append a b
def jn (ys : List Str) : Str := Txt.join (Str.ofString "") ys
theorem jn_one (z : Str) : jn [z] = z := eq_of_beq (join_closes (sep' := Str.ofString "") (ys := [z]) rfl)
theorem strjoin_cons (x : Str) : ∀ (l : List Str), Str.join (Str.ofString "") (x :: l) = x ++ Str.join (Str.ofString "") l
  | [] => (PySem.Str.append_empty x).symm
  | y :: r => by
    show x ++ Str.empty ++ Str.join (Str.ofString "") (y :: r) = _
    rw [PySem.Str.append_empty]
theorem strjoin_snoc (z : Str) : ∀ (l : List Str), Str.join (Str.ofString "") (l ++ [z]) = Str.join (Str.ofString "") l ++ z
  | [] => (PySem.Str.empty_append z).symm
  | x :: r => by rw [List.cons_append, strjoin_cons, strjoin_cons, strjoin_snoc z r, Str.append_assoc]
theorem jn_snoc (ys : List Str) (z : Str) : jn (ys ++ [z]) = jn ys ++ z := by
  have e : ∀ l, jn l = Str.join (Str.ofString "") l := fun l => eq_of_beq (join_closes rfl)
  rw [e, e, strjoin_snoc]
theorem jn_len : ∀ ys : List Str, (jn ys).length = (ys.map (·.length)).sum := by
  have e : ∀ l, jn l = Str.join (Str.ofString "") l := fun l => eq_of_beq (join_closes rfl)
  intro ys
  rw [e]
  induction ys with
  | nil => rfl
  | cons y r ih => rw [strjoin_cons, len_app2, ih, List.map_cons, List.sum_cons]

/-! ### the cutter, without Python -/
inductive Cs
  | len (ds : List Nat)
  | txt (m : Nat) (got : List Nat) (h : Nat)
  | bad
def isLenL (l : List Nat) : Bool := dcL l && (decide (1 ≤ PySem.NumText.digitsVal l) && decide (PySem.NumText.digitsVal l ≤ 100000))
def Cs.step : Cs → Nat → Cs × List (List Nat)
  | .len ds, c => if c = 58 ∧ ds ≠ [] then (.txt (PySem.NumText.digitsVal ds) [] (ds.length + 1), []) else if isLenL (ds ++ [c]) = true then (.len (ds ++ [c]), []) else (.bad, [])
  | .txt 0 got _, c => if c = 44 then (.len [], [got]) else (.bad, [])
  | .txt (m + 1) got h, c => if prC c = true then (.txt m (got ++ [c]) (h + 1), []) else (.bad, [])
  | .bad, _ => (.bad, [])
def Cs.run : Cs → List Nat → Cs × List (List Nat)
  | s, [] => (s, [])
  | s, c :: r => ((Cs.run (s.step c).1 r).1, (s.step c).2 ++ (Cs.run (s.step c).1 r).2)
def Cs.held : Cs → Nat
  | .len ds => ds.length
  | .txt _ _ h => h
  | .bad => 0
def Cs.isBad : Cs → Bool
  | .bad => true
  | _ => false
theorem run_nil (s : Cs) : s.run [] = (s, []) := by cases s <;> rfl
theorem run_cons (s : Cs) (c : Nat) (r : List Nat) : s.run (c :: r) = ((Cs.run (s.step c).1 r).1, (s.step c).2 ++ (Cs.run (s.step c).1 r).2) := by cases s <;> rfl
theorem run_app : ∀ (a : List Nat) (s : Cs) (b : List Nat), s.run (a ++ b) = (((s.run a).1.run b).1, (s.run a).2 ++ ((s.run a).1.run b).2)
  | [], s, b => by rw [run_nil]; rfl
  | c :: a, s, b => by rw [List.cons_append, run_cons, run_cons, run_app a]; simp
theorem run_bad : ∀ (l : List Nat), Cs.bad.run l = (.bad, [])
  | [] => rfl
  | c :: r => by rw [run_cons]; show ((Cs.bad.run r).1, [] ++ (Cs.bad.run r).2) = _; rw [run_bad r]; rfl
theorem prL_cons {c : Nat} {b : List Nat} : prL (c :: b) = (prC c && prL b) := by unfold prL; rw [List.all_cons]
theorem run_txt : ∀ (t : List Nat) (m : Nat) (got : List Nat) (h : Nat), t.length ≤ m → (Cs.txt m got h).run t = if prL t = true then (.txt (m - t.length) (got ++ t) (h + t.length), []) else (.bad, [])
  | [], m, got, h, _ => by rw [run_nil, if_pos (show prL [] = true from rfl)]; simp
  | c :: t, m, got, h, hl => by
    obtain ⟨m, rfl⟩ : ∃ k, m = k + 1 := ⟨m - 1, by rw [List.length_cons] at hl; omega⟩
    rw [run_cons]
    by_cases pc : prC c = true
    · have e : (Cs.txt (m + 1) got h).step c = (.txt m (got ++ [c]) (h + 1), []) := if_pos pc
      rw [e]
      show ((Cs.run (.txt m (got ++ [c]) (h + 1)) t).1, [] ++ (Cs.run (.txt m (got ++ [c]) (h + 1)) t).2) = _
      rw [run_txt t m _ _ (by rw [List.length_cons] at hl; omega), prL_cons, pc, Bool.true_and]
      by_cases pt : prL t = true
      · rw [if_pos pt, if_pos pt]
        simp [Nat.add_assoc, Nat.add_comm 1]
      · rw [if_neg pt, if_neg pt]; rfl
    · have e : (Cs.txt (m + 1) got h).step c = (.bad, []) := if_neg pc
      rw [e]
      show ((Cs.bad.run t).1, [] ++ (Cs.bad.run t).2) = _
      have pf : ¬ prL (c :: t) = true := by rw [prL_cons, Bool.and_eq_true]; exact fun z => pc z.1
      rw [run_bad, if_neg pf]; rfl
/-- the frame of a text -/
def frm (t : List Nat) : List Nat := TL.numL t.length ++ 58 :: (t ++ [44])
theorem numL_pre {n : Nat} (h1 : 1 ≤ n) (h2 : n ≤ 100000) : ∀ j, 1 ≤ j → j ≤ (TL.numL n).length → isLenL ((TL.numL n).take j) = true := by
  intro j j1 j2
  have hd := num_dcL n
  obtain ⟨d1, d2, d3⟩ := dcL_iff.mp hd
  obtain ⟨a, r, e⟩ : ∃ a r, TL.numL n = a :: r := by
    cases h : TL.numL n with
    | nil => exact absurd h d1
    | cons a r => exact ⟨a, r, rfl⟩
  have a48 : a ≠ 48 := by
    rintro rfl
    rcases d3 with d3 | d3
    · have := TL.numL_val n
      rw [d3] at this
      have : (48 - 48 : Nat) = n := by simpa [PySem.NumText.digitsVal] using this
      omega
    · rw [e] at d3; exact d3 rfl
  have hp : dcL ((TL.numL n).take j) = true := by
    refine dcL_iff.mpr ⟨fun z => ?_, fun c hc => d2 c (List.mem_of_mem_take hc), .inr ?_⟩
    · have := congrArg List.length z
      rw [List.length_take] at this
      have : min j (TL.numL n).length = 0 := by simpa using this
      omega
    · rw [e]
      obtain ⟨k, rfl⟩ : ∃ k, j = k + 1 := ⟨j - 1, by omega⟩
      show some a ≠ some 48
      intro z; cases z; exact a48 rfl
  have nj : TL.numL (PySem.NumText.digitsVal ((TL.numL n).take j)) = (TL.numL n).take j := dcL_num hp
  have v1 : 1 ≤ PySem.NumText.digitsVal ((TL.numL n).take j) := by
    refine Nat.pos_of_ne_zero fun z => ?_
    rw [z, e] at nj
    obtain ⟨k, rfl⟩ : ∃ k, j = k + 1 := ⟨j - 1, by omega⟩
    have nj : [48] = a :: r.take k := nj
    injection nj with q _
    exact a48 q.symm
  have mono : ∀ (q l : List Nat), PySem.NumText.digitsVal l ≤ PySem.NumText.digitsVal (l ++ q) := by
    intro q
    induction q with
    | nil => intro l; rw [List.append_nil]; exact Nat.le_refl _
    | cons c q ih =>
      intro l
      have := ih (l ++ [c])
      rw [List.append_assoc] at this
      have e := digitsVal_snoc l c
      have : PySem.NumText.digitsVal (l ++ [c]) ≤ PySem.NumText.digitsVal (l ++ c :: q) := this
      omega
  have v2 : PySem.NumText.digitsVal ((TL.numL n).take j) ≤ n := by
    have := mono ((TL.numL n).drop j) ((TL.numL n).take j)
    rw [List.take_append_drop, TL.numL_val] at this
    exact this
  unfold isLenL
  rw [hp, decide_eq_true v1, decide_eq_true (by omega)]; rfl
theorem run_digits {n : Nat} (h1 : 1 ≤ n) (h2 : n ≤ 100000) : ∀ j, j ≤ (TL.numL n).length → (Cs.len []).run ((TL.numL n).take j) = (.len ((TL.numL n).take j), []) := by
  intro j
  induction j with
  | zero => intro _; rw [List.take_zero, run_nil]
  | succ j ih =>
    intro hj
    have ih := ih (by omega)
    rw [List.take_succ_eq_append_getElem (by omega), run_app, ih]
    have hm : (TL.numL n)[j] ∈ TL.numL n := List.getElem_mem _
    have hdg := TL.numL_digits n _ hm
    have pre := numL_pre h1 h2 (j + 1) (by omega) hj
    rw [List.take_succ_eq_append_getElem (by omega)] at pre
    have st : (Cs.len ((TL.numL n).take j)).step (TL.numL n)[j] = (.len ((TL.numL n).take j ++ [(TL.numL n)[j]]), []) := by
      show (if (TL.numL n)[j] = 58 ∧ _ then _ else if isLenL _ = true then _ else _) = _
      rw [if_neg (fun z => by have := z.1; omega), if_pos pre]
    rw [run_cons, st, run_nil]; rfl
theorem run_head {n : Nat} (h1 : 1 ≤ n) (h2 : n ≤ 100000) : (Cs.len []).run (TL.numL n ++ [58]) = (.txt n [] ((TL.numL n).length + 1), []) := by
  have := run_digits h1 h2 (TL.numL n).length (Nat.le_refl _)
  rw [List.take_length] at this
  rw [run_app, this]
  have st : (Cs.len (TL.numL n)).step 58 = (.txt n [] ((TL.numL n).length + 1), []) := by
    show (if 58 = 58 ∧ TL.numL n ≠ [] then _ else _) = _
    rw [if_pos ⟨rfl, TL.numL_ne n⟩, TL.numL_val]
  rw [run_cons, st, run_nil]; rfl
theorem run_frm {t : List Nat} (h1 : 1 ≤ t.length) (h2 : t.length ≤ 100000) (hp : prL t = true) : (Cs.len []).run (frm t) = (.len [], [t]) := by
  unfold frm
  have e : TL.numL t.length ++ 58 :: (t ++ [44]) = (TL.numL t.length ++ [58]) ++ (t ++ [44]) := by simp
  rw [e, run_app, run_head h1 h2, run_app, run_txt t _ _ _ (Nat.le_refl _), if_pos hp, Nat.sub_self, run_cons]
  rfl
/-- a part of a frame: nothing is told, all of it is held -/
theorem run_part {t : List Nat} (h1 : 1 ≤ t.length) (h2 : t.length ≤ 100000) (hp : prL t = true) {j : Nat} (hj : j < (frm t).length) : ∃ s, (Cs.len []).run ((frm t).take j) = (s, []) ∧ s.held = j ∧ s.isBad = false := by
  have lf : (frm t).length = (TL.numL t.length).length + (t.length + 2) := by unfold frm; simp
  by_cases g1 : j ≤ (TL.numL t.length).length
  · refine ⟨.len ((TL.numL t.length).take j), ?_, ?_, rfl⟩
    · unfold frm
      rw [List.take_append_of_le_length g1]
      exact run_digits h1 h2 j g1
    · show ((TL.numL t.length).take j).length = j
      rw [List.length_take]; omega
  · have e : (frm t).take j = (TL.numL t.length ++ [58]) ++ t.take (j - (TL.numL t.length).length - 1) := by
      unfold frm
      have e : TL.numL t.length ++ 58 :: (t ++ [44]) = (TL.numL t.length ++ [58]) ++ (t ++ [44]) := by simp
      rw [e, List.take_append, List.take_of_length_le (by rw [List.length_append]; show _ + 1 ≤ j; omega)]
      congr 1
      rw [List.length_append, List.length_singleton, List.take_append_of_le_length (by omega)]
      rw [show j - ((TL.numL t.length).length + 1) = j - (TL.numL t.length).length - 1 by omega]
    rw [e, run_app, run_head h1 h2, run_txt _ _ _ _ (by rw [List.length_take]; omega), if_pos (show prL (t.take (j - (TL.numL t.length).length - 1)) = true from List.all_eq_true.mpr fun c hc => List.all_eq_true.mp hp c (List.mem_of_mem_take hc))]
    refine ⟨_, rfl, ?_, rfl⟩
    show (TL.numL t.length).length + 1 + (t.take _).length = j
    rw [List.length_take]; omega

/-! ### the cutter's parts -/
def cuF (b : Bool) (len : Str) (mis : V) (pa : Addr) (held : Int) : List (Str × V) := putF "_held" (.int held) (putF "_parts" (.ref pa) (putF "_missing" mis (putF "_length" (.str len) (putF "_broken" (.bl b) []))))
def But (S : List Addr) (H H' : Hp) : Prop := ∀ b o, b ∉ S → H b = some o → H' b = some o
theorem But.trans {S : List Addr} {H H1 H2 : Hp} (a : But S H H1) (b : But S H1 H2) : But S H H2 := fun c o n h => b c o n (a c o n h)
theorem But.mono {S S' : List Addr} {H H1 : Hp} (a : But S H H1) (h : ∀ x ∈ S, x ∈ S') : But S' H H1 := fun c o n e => a c o (fun m => n (h _ m)) e
theorem Same.but {S : List Addr} {H H' : Hp} (s : Same H H') : But S H H' := fun b o _ h => s b o h
theorem but_upd {S : List Addr} {a : Addr} {o : HO} {H : Hp} (h : a ∈ S) : But S H (upd H a o) := fun b u n e => by
  rw [upd_ne (fun z => n (by rw [z]; exact h))]; exact e
theorem same_none {H H' : Hp} {a : Addr} (s : Same H H') (z : H' a = none) : H a = none := by
  cases e : H a with
  | none => rfl
  | some u => rw [s _ _ e] at z; cases z
theorem putF_len {f : Str} {v : V} : ∀ {fs : List (Str × V)}, (putF f v fs).length ≤ fs.length + 1
  | [] => Nat.le_refl _
  | (g, x) :: r => by
    rw [putF]
    split
    · rw [List.length_cons, List.length_cons]; omega
    · rw [List.length_cons, List.length_cons]; have := putF_len (f := f) (v := v) (fs := r); omega
/-- the state of a cutter, by its fields -/
inductive CsF : Cs → Bool → Str → V → Int → List Str → Prop
  | len (ds : List Nat) (h : ds = [] ∨ isLenL ds = true) : CsF (.len ds) false ⟨ds.toArray⟩ .non ds.length []
  | txt (m h : Nat) (l : Str) (ys : List Str) (hh : (jn ys).length + m ≤ 100000) (hy : ys.length ≤ (jn ys).length) : CsF (.txt m (jn ys).cps.toList h) false l (.int m) h ys
  | bad : CsF .bad true (Str.ofString "") .non 0 []
theorem isLenL_inv {ds : List Nat} (h : isLenL ds = true) : dcL ds = true ∧ 1 ≤ PySem.NumText.digitsVal ds ∧ PySem.NumText.digitsVal ds ≤ 100000 ∧ ds.length ≤ 6 := by
  unfold isLenL at h
  rw [Bool.and_eq_true, Bool.and_eq_true] at h
  have h2 := of_decide_eq_true h.2.2
  have := TL.numL_len (n := PySem.NumText.digitsVal ds) (k := 6) (by decide) (by omega)
  rw [dcL_num h.1] at this
  exact ⟨h.1, of_decide_eq_true h.2.1, h2, this⟩
structure CuAt (C : Addr) (H : Hp) (p P : Addr) (cs : Cs) : Prop where
  at_ : ∃ dx b l m h ys, H p = some (.ins C dx (cuF b l m P h)) ∧ H P = some (.lst (ys.map V.str)) ∧ CsF cs b l m h ys
theorem CuAt.on {C : Addr} {H H' : Hp} {p P : Addr} {cs : Cs} {S : List Addr} (h : CuAt C H p P cs) (s : But S H H') (n1 : p ∉ S) (n2 : P ∉ S) : CuAt C H' p P cs := by
  obtain ⟨dx, b, l, m, hd, ys, e1, e2, f⟩ := h.at_
  exact ⟨dx, b, l, m, hd, ys, s _ _ n1 e1, s _ _ n2 e2, f⟩
/-- any fields at all, and the parts -/
def spStart (C : Addr) : Sp := fun vs H Q _ => ∃ (p dx : Addr) (b : Bool) (fs : List (Str × V)), vs = [.ref p] ∧ H p = some (.ins C dx fs) ∧ fs.length ≤ 50 ∧ (∀ P, putF "_held" (V.int 0) (putF "_parts" (.ref P) (putF "_missing" .non (putF "_length" (.str (Str.ofString "")) fs))) = cuF b (Str.ofString "") .non P 0) ∧
  ∀ H' P, But [p] H H' → H P = none → H' p = some (.ins C dx (cuF b (Str.ofString "") .non P 0)) → H' P = some (.lst []) → Q .non H'
section
variable {P : Program} {w : World} {K : PySem.W.Frag} {mg : Str → Option Value} {base : Heap}
theorem m_Cutter___start_frame {C_Cutter : Addr} (T : Txt K mg C_Cutter) : Met P w K mg base 1 C_Cutter "_start_frame" (spStart C_Cutter) [] := by
  refine met T.cl_Cutter T.me_Cutter___start_frame sc_Cutter___start_frame (fun vs H Q E h => ?_) (fun f cdv A outer s H vs Q E hr h => ?_)
  · obtain ⟨p, dx, b, fs, rfl, _⟩ := h; rfl
  obtain ⟨p, dx, b, fs, rfl, hp, hl, hf, q⟩ := h
  refine ⟨_, (pss_cons (ps_fld (pv 0) pe_str rfl)
      (pss_cons (ps_fld (pv 0) pe_non rfl)
      (pss_cons (ps_fld (pv 0) (pe_lst pa_nil) rfl)
      (pss_one (ps_fld (pv 0) pe_int rfl))))), ?_⟩
  have l1 := putF_len (f := "_length") (v := .str (Str.ofString "")) (fs := fs)
  walk_at "rds"
  refine ⟨p, _, dx, _, rfl, hp, T.cl_Cutter, T.na_Cutter__length, by omega, ?_⟩
  have b1 : But [p] H (upd H p (.ins C_Cutter dx (putF "_length" (.str (Str.ofString "")) fs))) := but_upd (by simp)
  have e1 : upd H p (.ins C_Cutter dx (putF "_length" (.str (Str.ofString "")) fs)) p = some (.ins C_Cutter dx (putF "_length" (.str (Str.ofString "")) fs)) := upd_same
  generalize putF "_length" (.str (Str.ofString "")) fs = f1 at l1 b1 e1 hf ⊢
  have l2 := putF_len (f := "_missing") (v := .non) (fs := f1)
  generalize upd H p (.ins C_Cutter dx f1) = H1 at b1 e1
  walk_at "rds"
  refine ⟨p, _, dx, _, rfl, e1, T.cl_Cutter, T.na_Cutter__missing, by omega, ?_⟩
  have b2 : But [p] H (upd H1 p (.ins C_Cutter dx (putF "_missing" .non f1))) := b1.trans (but_upd (by simp))
  have e2 : upd H1 p (.ins C_Cutter dx (putF "_missing" .non f1)) p = some (.ins C_Cutter dx (putF "_missing" .non f1)) := upd_same
  generalize putF "_missing" .non f1 = f2 at l2 b2 e2 hf ⊢
  generalize upd H1 p (.ins C_Cutter dx f2) = H2 at b2 e2
  walk_at "rds"
  intro P' hP
  have nP : P' ≠ p := fun z => by rw [z, e2] at hP; cases hP
  have fP : H P' = none := by
    cases h : H P' with
    | none => rfl
    | some o => rw [b2 _ _ (by simpa using nP) h] at hP; cases hP
  have b3 : But [p] H (upd H2 P' (.lst [])) := b2.trans (Same.but (same_upd hP))
  have e3 : upd H2 P' (.lst []) p = some (.ins C_Cutter dx f2) := (same_upd hP) _ _ e2
  have p3 : upd H2 P' (.lst []) P' = some (.lst []) := upd_same
  generalize upd H2 P' (.lst []) = H3 at b3 e3 p3
  have l3 := putF_len (f := "_parts") (v := .ref P') (fs := f2)
  have hf := hf P'
  walk_at "rds"
  refine ⟨p, _, dx, _, rfl, e3, T.cl_Cutter, T.na_Cutter__parts, by omega, ?_⟩
  have b4 : But [p] H (upd H3 p (.ins C_Cutter dx (putF "_parts" (.ref P') f2))) := b3.trans (but_upd (by simp))
  have e4 : upd H3 p (.ins C_Cutter dx (putF "_parts" (.ref P') f2)) p = some (.ins C_Cutter dx (putF "_parts" (.ref P') f2)) := upd_same
  have p4 : upd H3 p (.ins C_Cutter dx (putF "_parts" (.ref P') f2)) P' = some (.lst []) := by rw [upd_ne nP]; exact p3
  generalize putF "_parts" (.ref P') f2 = f3 at l3 b4 e4 p4 hf ⊢
  generalize upd H3 p (.ins C_Cutter dx f3) = H4 at b4 e4 p4
  walk_at "rds"
  refine ⟨p, _, dx, _, rfl, e4, T.cl_Cutter, T.na_Cutter__held, by omega, ?_⟩
  rw [hf]
  exact q _ P' (b4.trans (but_upd (by simp))) fP upd_same (by rw [upd_ne nP]; exact p4)
theorem c_is_length {C_Cutter : Addr} (T : Txt K mg C_Cutter) : Cal P w K mg base 2 "is_length" (fun vs H Q _ => ∃ (z : Str), vs = [.str z] ∧ z.length ≤ 640 ∧ ∀ H', Same H H' → Q (.bl (isLenL z.cps.toList)) H') [] := by
  have c_is_decimal := c_is_decimal (P := P) (w := w) (base := base) T
  refine cal T.d_is_length sc_is_length (fun vs H Q E h => ?_) (fun f cdv A' outer s H vs Q E hr h => ?_)
  · obtain ⟨z, rfl, _⟩ := h; rfl
  obtain ⟨z, rfl, hz, q⟩ := h
  refine ⟨_, (pss_one (ps_ret (pe_and (pe_c c_is_decimal hr (by decide) (by rfl) (pa_cons (pv 0) pa_nil)) (pe_one (pe_chain op_le op_le pe_int (pe_callTy call_int_str (by rfl) T.z_int (by decide +kernel) (pa_cons (pv 0) pa_nil)) (pe_gc (by rfl) T.c_MOST_LENGTH)))))), ?_⟩
  walk_at "rds"
  refine ⟨by omega, fun H1 s1 => ?_⟩
  walk_at "rds"
  have q := q _ s1
  unfold isLenL at q
  cases hd : dcL z.cps.toList with
  | false =>
    rw [hd] at q
    refine ifF rfl ?_
    exact q
  | true =>
    rw [hd, Bool.true_and] at q
    refine ifT rfl ?_
    obtain ⟨d1, d2, d3⟩ := dcL_iff.mp hd
    have it := PySem.intText_digits (x := z) d2 d1 (by omega)
    walk_at "rds"
    refine ⟨_, _, rfl, it, hz, ?_⟩
    generalize PySem.NumText.digitsVal z.cps.toList = n at q
    walk_at "rds"
    by_cases n1 : 1 ≤ n
    · refine ifT (decide_eq_true (by omega)) ?_
      rw [decide_eq_true n1, Bool.true_and] at q
      walk_at "rds"
      have q' : Q (.bl (decide ((n : Int) ≤ 100000))) H1 := by
        rw [show decide ((n : Int) ≤ 100000) = decide (n ≤ 100000) from decide_eq_decide.mpr (by omega)]; exact q
      exact q'
    · refine ifF (decide_eq_false (by omega)) ?_
      rw [decide_eq_false n1, Bool.false_and] at q
      exact q
/-- the cutter gives up -/
def spBreak (C : Addr) : Sp := fun vs H Q _ => ∃ (p P : Addr) (cs : Cs), vs = [.ref p] ∧ CuAt C H p P cs ∧ ∀ H' P', But [p] H H' → H P' = none → CuAt C H' p P' .bad → Q .non H'
theorem m_Cutter___break_off {C_Cutter : Addr} (T : Txt K mg C_Cutter) : Met P w K mg base 2 C_Cutter "_break_off" (spBreak C_Cutter) [] := by
  have m_Cutter___start_frame := m_Cutter___start_frame (P := P) (w := w) (K := K) (base := base) T
  refine met T.cl_Cutter T.me_Cutter___break_off sc_Cutter___break_off (fun vs H Q E h => ?_) (fun f cdv A outer s H vs Q E hr h => ?_)
  · obtain ⟨p, P, cs, rfl, _⟩ := h; rfl
  obtain ⟨p, P, cs, rfl, cu, q⟩ := h
  obtain ⟨dx, b, l, m, hd, ys, e1, e2, f⟩ := cu.at_
  refine ⟨_, (pss_cons (ps_expr (pe_mt0 m_Cutter___start_frame hr (by decide) (pv 0)))
      (pss_one (ps_fld (pv 0) pe_bl rfl))), ?_⟩
  walk_at "rds"
  refine ⟨p, dx, _, rfl, e1, rfl, ?_⟩
  walk_at "rds"
  refine ⟨p, dx, b, _, rfl, e1, (by show 5 ≤ 50; decide), fun _ => rfl, fun H1 P' b1 hP e3 p3 => ?_⟩
  walk_at "rds"
  refine ⟨p, _, dx, _, rfl, e3, T.cl_Cutter, T.na_Cutter__broken, (by show 5 < 1000; decide), ?_⟩
  have nP : P' ≠ p := fun z => by rw [z, e1] at hP; cases hP
  refine q _ P' (b1.trans (but_upd (by simp))) hP ⟨dx, true, (Str.ofString ""), .non, 0, [], ?_, by rw [upd_ne nP]; exact p3, .bad⟩
  exact upd_same
def spTL (C : Addr) : Sp := fun vs H Q _ => ∃ (p P : Addr) (ds : List Nat) (c : Nat), vs = [.ref p, .str ⟨#[c]⟩] ∧ CuAt C H p P (.len ds) ∧
  ∀ H' P', But [p] H H' → (P' = P ∨ H P' = none) → CuAt C H' p P' ((Cs.len ds).step c).1 → Q .non H'
theorem m_Cutter___take_length {C_Cutter : Addr} (T : Txt K mg C_Cutter) : Met P w K mg base 3 C_Cutter "_take_length" (spTL C_Cutter) [] := by
  have m_Cutter___break_off := m_Cutter___break_off (P := P) (w := w) (K := K) (base := base) T
  have c_is_length := c_is_length (P := P) (w := w) (base := base) T
  refine met T.cl_Cutter T.me_Cutter___take_length sc_Cutter___take_length (fun vs H Q E h => ?_) (fun f cdv A outer s H vs Q E hr h => ?_)
  · obtain ⟨p, P, ds, c, rfl, _⟩ := h; rfl
  obtain ⟨p, P, ds, c, rfl, cu, q⟩ := h
  obtain ⟨dx, b, l, m, hd, ys, e1, e2, f⟩ := id cu.at_
  cases f with
  | len _ hds =>
  have hl6 : ds.length ≤ 6 := by
    rcases hds with rfl | h
    · exact Nat.zero_le _
    · exact (isLenL_inv h).2.2.2
  have dS : ∀ m : Nat, decide (V.str ⟨#[c]⟩ = V.str ⟨#[m]⟩) = decide (c = m) := by
    intro m
    by_cases h : c = m
    · subst h; rw [decide_eq_true rfl, decide_eq_true rfl]
    · rw [decide_eq_false h, decide_eq_false]
      intro z
      have := congrArg (fun v => match v with | V.str s => s.cps.toList | _ => []) z
      have : [c] = [m] := this
      exact h (by simpa using this)
  have ne0 : ds ≠ [] → decide (V.str ⟨ds.toArray⟩ = V.str (Str.ofString "")) = false := fun h => decide_eq_false fun z => h (by
    have := congrArg (fun v => match v with | V.str s => s.cps.toList | _ => []) z
    exact this)
  refine ⟨_, (pss_one (ps_if (PW.pt (pw_and (pt_cmpR op_eq (pv 1) pe_str (nomark _)) (pw_and1 (pt_cmpR op_ne (pe_fld (pv 0) rfl) pe_str (nomark _))))) (pss_cons (ps_fld (pv 0) (pe_callTy call_int_str (by rfl) T.z_int (by decide +kernel) (pa_cons (pe_fld (pv 0) rfl) pa_nil)) rfl)
      (pss_one (ps_fld (pv 0) (pe_op op_add (pe_fld (pv 0) rfl) pe_int) rfl))) (pss_one (ps_if (pt_val (pe_c c_is_length hr (by decide) (by rfl) (pa_cons (pe_op op_add_str (pe_fld (pv 0) rfl) (pv 1)) pa_nil))) (pss_cons (ps_fld (pv 0) (pe_op op_add_str (pe_fld (pv 0) rfl) (pv 1)) rfl)
      (pss_one (ps_fld (pv 0) (pe_op op_add (pe_fld (pv 0) rfl) pe_int) rfl))) (pss_one (ps_expr (pe_mt0 m_Cutter___break_off hr (by decide) (pv 0)))))))), ?_⟩
  have rest : (¬ (c = 58 ∧ ds ≠ [])) → True := fun _ => trivial
  have off : (Cs.len ds).step c = (.bad, []) → ∀ H' P', But [p] H H' → H P' = none → CuAt C_Cutter H' p P' .bad → Q .non H' := fun e H' P' b1 hP cu' => q _ _ b1 (.inr hP) (by rw [e]; exact cu')
  walk_at "rds"
  by_cases g1 : c = 58
  · refine ifT ((dS 58).trans (decide_eq_true g1)) ?_
    walk_at "rds"
    refine ⟨p, _, dx, _, _, rfl, e1, T.cl_Cutter, T.na_Cutter__length, rfl, ?_⟩
    walk_at "rds"
    by_cases g2 : ds = []
    · have e0 : decide (V.str ⟨ds.toArray⟩ = V.str (Str.ofString "")) = true := by rw [g2]; rfl
      refine ifF (by rw [e0]; rfl) ?_
      walk_at "rds"
      refine ⟨p, _, dx, _, _, rfl, e1, T.cl_Cutter, T.na_Cutter__length, rfl, ?_⟩
      walk_at "rds"
      have es : (⟨ds.toArray⟩ : Str) ++ ⟨#[c]⟩ = ⟨(ds ++ [c]).toArray⟩ := str_eq_l.mpr (by rw [app_tl])
      have el : (⟨ds.toArray⟩ : Str).length = ds.length := by show ds.toArray.size = _; rw [List.size_toArray]
      have ec : (⟨#[c]⟩ : Str).length = 1 := rfl
      have sl := sizeLine_eq
      refine ⟨by omega, ?_⟩
      rw [es]
      have el2 : (⟨(ds ++ [c]).toArray⟩ : Str).length = ds.length + 1 := by show (ds ++ [c]).toArray.size = _; rw [List.size_toArray, List.length_append]; rfl
      walk_at "rds"
      refine ⟨by omega, fun H1 s1 => ?_⟩
      have cu1 := cu.on (Same.but (S := []) s1) (by simp) (by simp)
      have f1 := s1 _ _ e1
      have f2 := s1 _ _ e2
      show (∃ k, V.bl (isLenL (ds ++ [c])) = V.bl k ∧ _)
      cases hil : isLenL (ds ++ [c]) with
      | true =>
        have st : (Cs.len ds).step c = (.len (ds ++ [c]), []) := (if_neg (fun z => z.2 g2)).trans (if_pos hil)
        walk_at "rds"
        refine ⟨p, _, dx, _, _, rfl, f1, T.cl_Cutter, T.na_Cutter__length, rfl, ?_⟩
        walk_at "rds"
        refine ⟨p, _, dx, _, rfl, f1, T.cl_Cutter, T.na_Cutter__length, (by show 5 < 1000; decide), ?_⟩
        rw [es]
        have b2 : But [p] H (upd H1 p (.ins C_Cutter dx (putF "_length" (.str ⟨(ds ++ [c]).toArray⟩) (cuF false ⟨ds.toArray⟩ .non P ds.length)))) := (Same.but s1).trans (but_upd (by simp))
        have g1' : upd H1 p (.ins C_Cutter dx (putF "_length" (.str ⟨(ds ++ [c]).toArray⟩) (cuF false ⟨ds.toArray⟩ .non P ds.length))) p = some (.ins C_Cutter dx (cuF false ⟨(ds ++ [c]).toArray⟩ .non P ds.length)) := upd_same
        have nP : P ≠ p := fun z => by rw [z, e1] at e2; cases e2
        have g2' : upd H1 p (.ins C_Cutter dx (putF "_length" (.str ⟨(ds ++ [c]).toArray⟩) (cuF false ⟨ds.toArray⟩ .non P ds.length))) P = some (.lst []) := by rw [upd_ne nP]; exact f2
        generalize upd H1 p (.ins C_Cutter dx (putF "_length" (.str ⟨(ds ++ [c]).toArray⟩) (cuF false ⟨ds.toArray⟩ .non P ds.length))) = H2 at b2 g1' g2'
        walk_at "rds"
        refine ⟨p, _, dx, _, _, rfl, g1', T.cl_Cutter, T.na_Cutter__held, rfl, ?_⟩
        walk_at "rds"
        refine ⟨p, _, dx, _, rfl, g1', T.cl_Cutter, T.na_Cutter__held, (by show 5 < 1000; decide), ?_⟩
        refine q _ P (b2.trans (but_upd (by simp))) (.inl rfl) ?_
        rw [st]
        refine ⟨dx, _, _, _, _, [], upd_same, by rw [upd_ne nP]; exact g2', ?_⟩
        have e : ((ds.length : Int) + 1) = ((ds ++ [c]).length : Int) := by rw [List.length_append]; rfl
        rw [e]
        exact .len _ (.inr hil)
      | false =>
        have st : (Cs.len ds).step c = (.bad, []) := (if_neg (fun z => z.2 g2)).trans (if_neg (by rw [hil]; decide))
        walk_at "rds"
        refine ⟨p, dx, _, rfl, f1, rfl, ?_⟩
        walk_at "rds"
        refine ⟨p, P, _, rfl, cu1, fun H2 P' b2 hP cu2 => off st _ _ ((Same.but s1).trans b2) (same_none s1 hP) cu2⟩
    · refine ifT (by rw [ne0 g2]; rfl) ?_
      walk_at "rds"
      refine ⟨p, _, dx, _, _, rfl, e1, T.cl_Cutter, T.na_Cutter__length, rfl, ?_⟩
      walk_at "rds"
      have hil : isLenL ds = true := hds.resolve_left g2
      obtain ⟨v1, v2, v3, v4⟩ := isLenL_inv hil
      obtain ⟨d1, d2, d3⟩ := dcL_iff.mp v1
      have el : (⟨ds.toArray⟩ : Str).length = ds.length := by show ds.toArray.size = _; rw [List.size_toArray]
      have it := PySem.intText_digits (x := ⟨ds.toArray⟩) d2 d1 (by omega)
      delta tNil
      refine ⟨_, _, rfl, it, by omega, ?_⟩
      have it0 : PySem.NumText.digitsVal (⟨ds.toArray⟩ : Str).cps.toList = PySem.NumText.digitsVal ds := rfl
      rw [it0]
      have st : (Cs.len ds).step c = (.txt (PySem.NumText.digitsVal ds) [] (ds.length + 1), []) := if_pos ⟨g1, g2⟩
      generalize PySem.NumText.digitsVal ds = n at v2 v3 st
      walk_at "rds"
      refine ⟨p, _, dx, _, rfl, e1, T.cl_Cutter, T.na_Cutter__missing, (by show 5 < 1000; decide), ?_⟩
      have nP : P ≠ p := fun z => by rw [z, e1] at e2; cases e2
      have b2 : But [p] H (upd H p (.ins C_Cutter dx (putF "_missing" (.int n) (cuF false ⟨ds.toArray⟩ .non P ds.length)))) := but_upd (by simp)
      have g1' : upd H p (.ins C_Cutter dx (putF "_missing" (.int n) (cuF false ⟨ds.toArray⟩ .non P ds.length))) p = some (.ins C_Cutter dx (cuF false ⟨ds.toArray⟩ (.int n) P ds.length)) := upd_same
      have g2' : upd H p (.ins C_Cutter dx (putF "_missing" (.int n) (cuF false ⟨ds.toArray⟩ .non P ds.length))) P = some (.lst []) := by rw [upd_ne nP]; exact e2
      generalize upd H p (.ins C_Cutter dx (putF "_missing" (.int n) (cuF false ⟨ds.toArray⟩ .non P ds.length))) = H2 at b2 g1' g2'
      walk_at "rds"
      refine ⟨p, _, dx, _, _, rfl, g1', T.cl_Cutter, T.na_Cutter__held, rfl, ?_⟩
      walk_at "rds"
      refine ⟨p, _, dx, _, rfl, g1', T.cl_Cutter, T.na_Cutter__held, (by show 5 < 1000; decide), ?_⟩
      refine q _ P (b2.trans (but_upd (by simp))) (.inl rfl) ?_
      rw [st]
      refine ⟨dx, _, _, _, _, [], upd_same, by rw [upd_ne nP]; exact g2', ?_⟩
      exact .txt n (ds.length + 1) _ [] (by show 0 + n ≤ _; omega) (Nat.zero_le _)
  · refine ifF ((dS 58).trans (decide_eq_false g1)) ?_
    walk_at "rds"
    refine ⟨p, _, dx, _, _, rfl, e1, T.cl_Cutter, T.na_Cutter__length, rfl, ?_⟩
    walk_at "rds"
    have es : (⟨ds.toArray⟩ : Str) ++ ⟨#[c]⟩ = ⟨(ds ++ [c]).toArray⟩ := str_eq_l.mpr (by rw [app_tl])
    have el : (⟨ds.toArray⟩ : Str).length = ds.length := by show ds.toArray.size = _; rw [List.size_toArray]
    have ec : (⟨#[c]⟩ : Str).length = 1 := rfl
    have sl := sizeLine_eq
    refine ⟨by omega, ?_⟩
    rw [es]
    have el2 : (⟨(ds ++ [c]).toArray⟩ : Str).length = ds.length + 1 := by show (ds ++ [c]).toArray.size = _; rw [List.size_toArray, List.length_append]; rfl
    walk_at "rds"
    refine ⟨by omega, fun H1 s1 => ?_⟩
    have cu1 := cu.on (Same.but (S := []) s1) (by simp) (by simp)
    have f1 := s1 _ _ e1
    have f2 := s1 _ _ e2
    show (∃ k, V.bl (isLenL (ds ++ [c])) = V.bl k ∧ _)
    cases hil : isLenL (ds ++ [c]) with
    | true =>
      have st : (Cs.len ds).step c = (.len (ds ++ [c]), []) := (if_neg (fun z => g1 z.1)).trans (if_pos hil)
      walk_at "rds"
      refine ⟨p, _, dx, _, _, rfl, f1, T.cl_Cutter, T.na_Cutter__length, rfl, ?_⟩
      walk_at "rds"
      refine ⟨p, _, dx, _, rfl, f1, T.cl_Cutter, T.na_Cutter__length, (by show 5 < 1000; decide), ?_⟩
      rw [es]
      have b2 : But [p] H (upd H1 p (.ins C_Cutter dx (putF "_length" (.str ⟨(ds ++ [c]).toArray⟩) (cuF false ⟨ds.toArray⟩ .non P ds.length)))) := (Same.but s1).trans (but_upd (by simp))
      have g1' : upd H1 p (.ins C_Cutter dx (putF "_length" (.str ⟨(ds ++ [c]).toArray⟩) (cuF false ⟨ds.toArray⟩ .non P ds.length))) p = some (.ins C_Cutter dx (cuF false ⟨(ds ++ [c]).toArray⟩ .non P ds.length)) := upd_same
      have nP : P ≠ p := fun z => by rw [z, e1] at e2; cases e2
      have g2' : upd H1 p (.ins C_Cutter dx (putF "_length" (.str ⟨(ds ++ [c]).toArray⟩) (cuF false ⟨ds.toArray⟩ .non P ds.length))) P = some (.lst []) := by rw [upd_ne nP]; exact f2
      generalize upd H1 p (.ins C_Cutter dx (putF "_length" (.str ⟨(ds ++ [c]).toArray⟩) (cuF false ⟨ds.toArray⟩ .non P ds.length))) = H2 at b2 g1' g2'
      walk_at "rds"
      refine ⟨p, _, dx, _, _, rfl, g1', T.cl_Cutter, T.na_Cutter__held, rfl, ?_⟩
      walk_at "rds"
      refine ⟨p, _, dx, _, rfl, g1', T.cl_Cutter, T.na_Cutter__held, (by show 5 < 1000; decide), ?_⟩
      refine q _ P (b2.trans (but_upd (by simp))) (.inl rfl) ?_
      rw [st]
      refine ⟨dx, _, _, _, _, [], upd_same, by rw [upd_ne nP]; exact g2', ?_⟩
      have e : ((ds.length : Int) + 1) = ((ds ++ [c]).length : Int) := by rw [List.length_append]; rfl
      rw [e]
      exact .len _ (.inr hil)
    | false =>
      have st : (Cs.len ds).step c = (.bad, []) := (if_neg (fun z => g1 z.1)).trans (if_neg (by rw [hil]; decide))
      walk_at "rds"
      refine ⟨p, dx, _, rfl, f1, rfl, ?_⟩
      walk_at "rds"
      refine ⟨p, P, _, rfl, cu1, fun H2 P' b2 hP cu2 => off st _ _ ((Same.but s1).trans b2) (same_none s1 hP) cu2⟩
end

/-! ### the cutter takes text, and the comma -/
def spTT (C : Addr) : Sp := fun vs H Q _ => ∃ (p P : Addr) (m : Nat) (got : List Nat) (h : Nat) (t : Str), vs = [.ref p, .str t] ∧ CuAt C H p P (.txt m got h) ∧ 1 ≤ t.length ∧ t.length ≤ m ∧
  ∀ H' P', But [p, P] H H' → (P' = P ∨ H P' = none) → CuAt C H' p P' ((Cs.txt m got h).run t.cps.toList).1 → Q .non H'
def spTE (C : Addr) : Sp := fun vs H Q _ => ∃ (p P : Addr) (got : List Nat) (h : Nat) (c : Nat), vs = [.ref p, .str ⟨#[c]⟩] ∧ CuAt C H p P (.txt 0 got h) ∧
  ∀ (H' : Hp) (P' l : Addr) (ys : List Str), But [p] H H' → H P' = none → CuAt C H' p P' ((Cs.txt 0 got h).step c).1 → H' l = some (.lst (ys.map V.str)) → ys.map (fun z => z.cps.toList) = ((Cs.txt 0 got h).step c).2 → l ≠ P' → H l = none → Q (.ref l) H'
section
variable {P : Program} {w : World} {K : PySem.W.Frag} {mg : Str → Option Value} {base : Heap}
theorem m_Cutter___take_text {C_Cutter : Addr} (T : Txt K mg C_Cutter) : Met P w K mg base 3 C_Cutter "_take_text" (spTT C_Cutter) [] := by
  have m_Cutter___break_off := m_Cutter___break_off (P := P) (w := w) (K := K) (base := base) T
  have c_is_printable := c_is_printable (P := P) (w := w) (base := base) T
  refine met T.cl_Cutter T.me_Cutter___take_text sc_Cutter___take_text (fun vs H Q E h => ?_) (fun f cdv A outer s H vs Q E hr h => ?_)
  · obtain ⟨p, P, m, got, hd, t, rfl, _⟩ := h; rfl
  obtain ⟨p, P, m, got, hd, t, rfl, cu, t1, tm, q⟩ := h
  obtain ⟨dx, b, l, mv, hv, ys, e1, e2, f⟩ := id cu.at_
  have run := run_txt t.cps.toList m got hd (by rw [len_tl]; exact tm)
  rw [run] at q
  cases f with
  | txt _ _ _ _ hh hy =>
  have nP : P ≠ p := fun z => by rw [z, e1] at e2; cases e2
  have sl := sizeLine_eq
  refine ⟨_, (pss_one (ps_if (pt_val (pe_c c_is_printable hr (by decide) (by rfl) (pa_cons (pv 1) pa_nil))) (pss_cons (ps_expr (pe_bm PySem.F.plainAttrs_list PySem.F.slot_list_append PySem.F.type_list_append mt_append (pe_fld (pv 0) rfl) (pa_cons (pv 1) pa_nil)))
      (pss_cons (ps_fld (pv 0) (pe_op op_sub (pe_fld (pv 0) rfl) (pe_callB call_len_str (by rfl) T.z_len (by decide +kernel) (pa_cons (pv 1) pa_nil))) rfl)
      (pss_one (ps_fld (pv 0) (pe_op op_add (pe_fld (pv 0) rfl) (pe_callB call_len_str (by rfl) T.z_len (by decide +kernel) (pa_cons (pv 1) pa_nil))) rfl)))) (pss_one (ps_expr (pe_mt0 m_Cutter___break_off hr (by decide) (pv 0)))))), ?_⟩
  walk_at "rds"
  refine .inl ⟨t, rfl, by omega, fun H1 s1 => ?_⟩
  have pr : isPr t = prL t.cps.toList := rfl
  rw [pr]
  have f1 := s1 _ _ e1
  have f2 := s1 _ _ e2
  cases hp : prL t.cps.toList with
  | true =>
    rw [if_pos hp] at q
    walk_at "rds"
    refine ⟨p, _, dx, _, _, rfl, f1, T.cl_Cutter, T.na_Cutter__parts, rfl, ?_⟩
    refine ⟨.inl ⟨rfl, _, sq f2⟩, ?_⟩
    walk_at "rds"
    refine ⟨P, _, _, rfl, rfl, f2, by rw [List.length_map]; omega, ?_⟩
    have b2 : But [p, P] H (upd H1 P (.lst (ys.map V.str ++ [.str t]))) := (Same.but s1).trans (but_upd (by simp))
    have g1 : upd H1 P (.lst (ys.map V.str ++ [.str t])) p = some (.ins C_Cutter dx (cuF false l (.int m) P hd)) := by rw [upd_ne (Ne.symm nP)]; exact f1
    have g2 : upd H1 P (.lst (ys.map V.str ++ [.str t])) P = some (.lst ((ys ++ [t]).map V.str)) := by rw [List.map_append]; exact upd_same
    generalize upd H1 P (.lst (ys.map V.str ++ [.str t])) = H2 at b2 g1 g2
    walk_at "rds"
    refine ⟨p, _, dx, _, _, rfl, g1, T.cl_Cutter, T.na_Cutter__missing, rfl, ?_⟩
    walk_at "rds"
    refine ⟨p, _, dx, _, rfl, g1, T.cl_Cutter, T.na_Cutter__missing, (by show 5 < 1000; decide), ?_⟩
    have em : ((m : Int) - (t.length : Int)) = ((m - t.length : Nat) : Int) := by omega
    rw [show (fun i j => V.int (i - j)) (m : Int) (t.length : Int) = V.int ((m - t.length : Nat) : Int) from congrArg V.int em]
    have b3 : But [p, P] H (upd H2 p (.ins C_Cutter dx (putF "_missing" (.int ((m - t.length : Nat) : Int)) (cuF false l (.int m) P hd)))) := b2.trans (but_upd (by simp))
    have k1 : upd H2 p (.ins C_Cutter dx (putF "_missing" (.int ((m - t.length : Nat) : Int)) (cuF false l (.int m) P hd))) p = some (.ins C_Cutter dx (cuF false l (.int ((m - t.length : Nat) : Int)) P hd)) := upd_same
    have k2 : upd H2 p (.ins C_Cutter dx (putF "_missing" (.int ((m - t.length : Nat) : Int)) (cuF false l (.int m) P hd))) P = some (.lst ((ys ++ [t]).map V.str)) := by rw [upd_ne nP]; exact g2
    generalize upd H2 p (.ins C_Cutter dx (putF "_missing" (.int ((m - t.length : Nat) : Int)) (cuF false l (.int m) P hd))) = H3 at b3 k1 k2
    walk_at "rds"
    refine ⟨p, _, dx, _, _, rfl, k1, T.cl_Cutter, T.na_Cutter__held, rfl, ?_⟩
    walk_at "rds"
    refine ⟨p, _, dx, _, rfl, k1, T.cl_Cutter, T.na_Cutter__held, (by show 5 < 1000; decide), ?_⟩
    refine q _ P (b3.trans (but_upd (by simp))) (.inl rfl) ⟨dx, _, _, _, _, ys ++ [t], upd_same, by rw [upd_ne nP]; exact k2, ?_⟩
    have eg : (jn ys).cps.toList ++ t.cps.toList = (jn (ys ++ [t])).cps.toList := by rw [jn_snoc, app_tl]
    have lg : (jn (ys ++ [t])).length = (jn ys).length + t.length := by rw [jn_snoc, len_app2]
    show CsF (.txt (m - t.cps.toList.length) ((jn ys).cps.toList ++ t.cps.toList) (hd + t.cps.toList.length)) false l (.int ((m - t.length : Nat) : Int)) ((hd : Int) + (t.length : Int)) (ys ++ [t])
    rw [eg, len_tl, show ((hd : Int) + (t.length : Int)) = ((hd + t.length : Nat) : Int) by omega]
    exact .txt _ _ _ _ (by omega) (by rw [List.length_append, List.length_singleton]; omega)
  | false =>
    rw [if_neg (by rw [hp]; decide)] at q
    have cu1 := cu.on (Same.but (S := []) s1) (by simp) (by simp)
    walk_at "rds"
    refine ⟨p, dx, _, rfl, f1, rfl, ?_⟩
    walk_at "rds"
    refine ⟨p, P, _, rfl, cu1, fun H2 P' b2 hP cu2 => ?_⟩
    exact q _ _ ((Same.but s1).trans (b2.mono (by simp))) (.inr (same_none s1 hP)) cu2
theorem m_Cutter___take_end {C_Cutter : Addr} (T : Txt K mg C_Cutter) : Met P w K mg base 3 C_Cutter "_take_end" (spTE C_Cutter) [] := by
  have m_Cutter___break_off := m_Cutter___break_off (P := P) (w := w) (K := K) (base := base) T
  have m_Cutter___start_frame := m_Cutter___start_frame (P := P) (w := w) (K := K) (base := base) T
  refine met T.cl_Cutter T.me_Cutter___take_end sc_Cutter___take_end (fun vs H Q E h => ?_) (fun f cdv A outer s H vs Q E hr h => ?_)
  · obtain ⟨p, P, got, hd, c, rfl, _⟩ := h; rfl
  obtain ⟨p, P, got, hd, c, rfl, cu, q⟩ := h
  obtain ⟨dx, b, l, mv, hv, ys, e1, e2, f⟩ := id cu.at_
  have dS : decide (V.str ⟨#[c]⟩ = V.str ⟨#[44]⟩) = decide (c = 44) := by
    by_cases h : c = 44
    · subst h; rw [decide_eq_true rfl, decide_eq_true rfl]
    · rw [decide_eq_false h, decide_eq_false]
      intro z
      have := congrArg (fun v => match v with | V.str s => s.cps.toList | _ => []) z
      have : [c] = [44] := this
      exact h (by simpa using this)
  refine ⟨_, (pss_cons (ps_if (pt_cmpR op_ne (pv 1) pe_str (nomark _)) (pss_cons (ps_expr (pe_mt0 m_Cutter___break_off hr (by decide) (pv 0)))
      (pss_one (ps_ret (pe_lst pa_nil)))) pss_nil)
      (pss_cons (ps_set (i := 2) sc_Cutter___take_end.nd rfl (Or.inl rfl) (pe_join pe_str (pe_fld (pv 0) rfl)))
      (pss_cons (ps_expr (pe_mt0 m_Cutter___start_frame hr (by decide) (pv 0)))
      (pss_one (ps_ret (pe_lst (pa_cons (pv 2) pa_nil))))))), ?_⟩
  walk_at "rds"
  by_cases g : c = 44
  · have st : (Cs.txt 0 got hd).step c = (.len [], [got]) := if_pos g
    rw [st] at q
    refine ifF (by rw [show decide (V.str ⟨#[c]⟩ = V.str (Str.ofString ",")) = true from dS.trans (decide_eq_true g)]; rfl) ?_
    walk_at "rds"
    cases f with
    | txt _ _ _ _ hh hy =>
    refine ⟨p, _, dx, _, _, rfl, e1, T.cl_Cutter, T.na_Cutter__parts, rfl, ?_⟩
    have ljn : (jn ys).length ≤ 100000 := by omega
    refine ⟨_, P, ys, rfl, rfl, .inl (sq e2), ?_, ?_⟩
    · rw [← jn_len, show (Str.ofString "").length = 0 from rfl]; have sl := sizeLine_eq; omega
    have jne : Txt.join (Str.ofString "") ys = jn ys := rfl
    rw [jne]
    walk_at "rds"
    refine ⟨p, dx, _, rfl, e1, rfl, ?_⟩
    walk_at "rds"
    refine ⟨p, dx, false, _, rfl, e1, (by show 5 ≤ 50; decide), fun _ => rfl, fun H1 P' b1 hP e3 p3 => ?_⟩
    walk_at "rds"
    intro l2 hl
    have np : p ≠ l2 := fun z => by rw [z, hl] at e3; cases e3
    have nP : P' ≠ l2 := fun z => by rw [z, hl] at p3; cases p3
    refine q _ P' l2 [jn ys] (b1.trans (Same.but (same_upd hl))) hP ⟨dx, _, _, _, _, [], (same_upd hl) _ _ e3, (same_upd hl) _ _ p3, .len [] (.inl rfl)⟩ upd_same rfl nP.symm ?_
    cases h : H l2 with
    | none => rfl
    | some o => rw [b1 _ _ (by simpa using np.symm) h] at hl; cases hl
  · have st : (Cs.txt 0 got hd).step c = (.bad, []) := if_neg g
    rw [st] at q
    refine ifT (by rw [show decide (V.str ⟨#[c]⟩ = V.str (Str.ofString ",")) = false from dS.trans (decide_eq_false g)]; rfl) ?_
    walk_at "rds"
    refine ⟨p, dx, _, rfl, e1, rfl, ?_⟩
    walk_at "rds"
    refine ⟨p, P, _, rfl, cu, fun H2 P' b2 hP cu2 => ?_⟩
    walk_at "rds"
    intro l2 hl
    have np : p ≠ l2 := fun z => by
      obtain ⟨_, _, _, _, _, _, k1, _, _⟩ := cu2.at_
      rw [z, hl] at k1; cases k1
    have nP : P' ≠ l2 := fun z => by
      obtain ⟨_, _, _, _, _, _, _, k2, _⟩ := cu2.at_
      rw [z, hl] at k2; cases k2
    refine q _ P' l2 [] (b2.trans (Same.but (same_upd hl))) hP (cu2.on (Same.but (S := []) (same_upd hl)) (by simp) (by simp)) upd_same rfl nP.symm ?_
    cases h : H l2 with
    | none => rfl
    | some o => rw [b2 _ _ (by simpa using np.symm) h] at hl; cases hl
end

/-! ### cuts of texts -/
theorem cut_to {z : Str} {n : Nat} : (cutS z none (some (n : Int))).cps.toList = z.cps.toList.take n := by
  unfold cutS
  rw [HT.sIx_none, HT.sIx_nat]
  show (z.cps.toList.drop 0).take (min n z.length - 0) = _
  rw [List.drop_zero, Nat.sub_zero, ← len_tl]
  by_cases h : n ≤ z.cps.toList.length
  · rw [Nat.min_eq_left h]
  · rw [Nat.min_eq_right (by omega), List.take_of_length_le (Nat.le_refl _), List.take_of_length_le (by omega)]
theorem cut_from {z : Str} {n : Nat} : (cutS z (some (n : Int)) none).cps.toList = z.cps.toList.drop n := by
  unfold cutS
  rw [HT.sIx_none, HT.sIx_nat]
  show (z.cps.toList.drop (min n z.length)).take (z.length - min n z.length) = _
  rw [← len_tl]
  by_cases h : n ≤ z.cps.toList.length
  · rw [Nat.min_eq_left h, List.take_of_length_le (by rw [List.length_drop]; omega)]
  · rw [Nat.min_eq_right (by omega), List.drop_length, List.take_nil, List.drop_eq_nil_of_le (by omega)]
theorem cut_mid {z : Str} {i e : Nat} (h : i ≤ z.length) : (cutS z (some (i : Int)) (some (e : Int))).cps.toList = (z.cps.toList.drop i).take (e - i) := by
  unfold cutS
  rw [HT.sIx_nat, HT.sIx_nat]
  show (z.cps.toList.drop (min i z.length)).take (min e z.length - min i z.length) = _
  rw [Nat.min_eq_left h]
  by_cases g : e ≤ z.length
  · rw [Nat.min_eq_left g]
  · rw [Nat.min_eq_right (by omega), List.take_of_length_le (by rw [List.length_drop, len_tl]; omega), List.take_of_length_le (by rw [List.length_drop, len_tl]; omega)]
theorem pr_cut {y z : Str} {l : List Nat} (hp : isPr z = true) (h : y.cps.toList = l) (hl : ∀ c ∈ l, c ∈ z.cps.toList) : isPr y = true := by
  unfold isPr at hp ⊢
  rw [h]
  exact List.all_eq_true.mpr fun c hc => List.all_eq_true.mp hp c (hl c hc)

/-! ### a cutter is made, fed and asked -/
theorem but_next {p P P' : Addr} {H H1 H2 : Hp} (a : But [p, P] H H1) (h : P' = P ∨ H P' = none) (b : But [p, P'] H1 H2) : But [p, P] H H2 := fun c o n e => by
  refine b c o ?_ (a c o n e)
  simp only [List.mem_cons, List.not_mem_nil, or_false, not_or] at n ⊢
  refine ⟨n.1, fun z => ?_⟩
  rcases h with rfl | h
  · exact n.2 z
  · rw [z, h] at e; cases e
theorem fresh_next {p P P' P2 : Addr} {H H1 : Hp} (a : But [p, P] H H1) (h : P' = P ∨ H P' = none) (hp : ∃ o, H1 p = some o) (h2 : P2 = P' ∨ H1 P2 = none) : P2 = P ∨ H P2 = none := by
  rcases h2 with rfl | h2
  · exact h
  by_cases e : P2 = P
  · exact .inl e
  refine .inr ?_
  cases g : H P2 with
  | none => rfl
  | some o =>
    have np : P2 ≠ p := fun z => by obtain ⟨o, ho⟩ := hp; rw [z, ho] at h2; cases h2
    rw [a _ _ (by simp [np, e]) g] at h2; cases h2
theorem CuAt.p {C : Addr} {H : Hp} {p P : Addr} {cs : Cs} (h : CuAt C H p P cs) : ∃ o, H p = some o := by
  obtain ⟨_, _, _, _, _, _, e, _⟩ := h.at_
  exact ⟨_, e⟩
theorem CuAt.ne {C : Addr} {H : Hp} {p P l : Addr} {cs : Cs} (h : CuAt C H p P cs) {xs : List V} (e : H l = some (.lst xs)) : l ≠ p := fun z => by
  obtain ⟨_, _, _, _, _, _, e1, _⟩ := h.at_
  rw [z, e1] at e; cases e
def spMake (C : Addr) : Sp := fun vs H Q _ => ∃ (p dx : Addr), vs = [.ref p] ∧ H p = some (.ins C dx []) ∧ ∀ H' P, But [p] H H' → H P = none → CuAt C H' p P (.len []) → Q .non H'
def spBrk (C : Addr) : Sp := fun vs H Q _ => ∃ (p P : Addr) (cs : Cs), vs = [.ref p] ∧ CuAt C H p P cs ∧ Q (.bl cs.isBad) H
def spWtg (C : Addr) : Sp := fun vs H Q _ => ∃ (p P : Addr) (cs : Cs), vs = [.ref p] ∧ CuAt C H p P cs ∧ Q (.int cs.held) H
def spFeed (C : Addr) : Sp := fun vs H Q _ => ∃ (p P : Addr) (cs : Cs) (z : Str), vs = [.ref p, .str z] ∧ CuAt C H p P cs ∧ z.length ≤ 1000000 ∧
  ∀ (H' : Hp) (P' l : Addr) (ys : List Str), But [p, P] H H' → (P' = P ∨ H P' = none) → CuAt C H' p P' (cs.run z.cps.toList).1 → H' l = some (.lst (ys.map V.str)) → ys.map (fun z => z.cps.toList) = (cs.run z.cps.toList).2 → l ≠ P' → H l = none → Q (.ref l) H'
section
variable {P : Program} {w : World} {K : PySem.W.Frag} {mg : Str → Option Value} {base : Heap}
theorem k_Cutter {C_Cutter : Addr} (T : Txt K mg C_Cutter) : Mak P w K mg base 2 "Cutter" C_Cutter (spMake C_Cutter) [] := by
  have m_Cutter___start_frame := m_Cutter___start_frame (P := P) (w := w) (K := K) (base := base) T
  refine mak T.g_Cutter T.mk_Cutter sc_Cutter____init__ (fun vs H Q E h => ?_) (fun f cdv A outer s H vs Q E hr h => ?_)
  · obtain ⟨p, dx, rfl, _⟩ := h; rfl
  obtain ⟨p, dx, rfl, hp, q⟩ := h
  refine ⟨_, (pss_cons (ps_fld (pv 0) pe_bl rfl)
      (pss_one (ps_expr (pe_mt0 m_Cutter___start_frame hr (by decide) (pv 0))))), ?_⟩
  walk_at "rds"
  refine ⟨p, _, dx, _, rfl, hp, T.cl_Cutter, T.na_Cutter__broken, (by show 0 < 1000; decide), ?_⟩
  have b1 : But [p] H (upd H p (.ins C_Cutter dx (putF "_broken" (.bl false) []))) := but_upd (by simp)
  have e1 : upd H p (.ins C_Cutter dx (putF "_broken" (.bl false) [])) p = some (.ins C_Cutter dx (putF "_broken" (.bl false) [])) := upd_same
  generalize upd H p (.ins C_Cutter dx (putF "_broken" (.bl false) [])) = H1 at b1 e1
  walk_at "rds"
  refine ⟨p, dx, _, rfl, e1, rfl, ?_⟩
  walk_at "rds"
  refine ⟨p, dx, false, _, rfl, e1, (by show 1 ≤ 50; decide), fun _ => rfl, fun H2 P' b2 hP e3 p3 => ?_⟩
  have nP : P' ≠ p := fun z => by rw [z, e1] at hP; cases hP
  refine q _ P' (b1.trans b2) ?_ ⟨dx, _, _, _, _, [], e3, p3, .len [] (.inl rfl)⟩
  cases h : H P' with
  | none => rfl
  | some o => rw [b1 _ _ (by simpa using nP) h] at hP; cases hP
theorem m_Cutter__broken {C_Cutter : Addr} (T : Txt K mg C_Cutter) : Met P w K mg base 1 C_Cutter "broken" (spBrk C_Cutter) [] := by
  refine met T.cl_Cutter T.me_Cutter__broken sc_Cutter__broken (fun vs H Q E h => ?_) (fun f cdv A outer s H vs Q E hr h => ?_)
  · obtain ⟨p, P, cs, rfl, _⟩ := h; rfl
  obtain ⟨p, P, cs, rfl, cu, q⟩ := h
  obtain ⟨dx, b, l, m, hd, ys, e1, e2, f⟩ := cu.at_
  refine ⟨_, (pss_one (ps_ret (pe_fld (pv 0) rfl))), ?_⟩
  walk_at "rds"
  refine ⟨p, _, dx, _, _, rfl, e1, T.cl_Cutter, T.na_Cutter__broken, rfl, ?_⟩
  cases f <;> exact q
theorem m_Cutter__waiting {C_Cutter : Addr} (T : Txt K mg C_Cutter) : Met P w K mg base 1 C_Cutter "waiting" (spWtg C_Cutter) [] := by
  refine met T.cl_Cutter T.me_Cutter__waiting sc_Cutter__waiting (fun vs H Q E h => ?_) (fun f cdv A outer s H vs Q E hr h => ?_)
  · obtain ⟨p, P, cs, rfl, _⟩ := h; rfl
  obtain ⟨p, P, cs, rfl, cu, q⟩ := h
  obtain ⟨dx, b, l, m, hd, ys, e1, e2, f⟩ := cu.at_
  refine ⟨_, (pss_one (ps_ret (pe_fld (pv 0) rfl))), ?_⟩
  walk_at "rds"
  refine ⟨p, _, dx, _, _, rfl, e1, T.cl_Cutter, T.na_Cutter__held, rfl, ?_⟩
  cases f <;> exact q
theorem m_Cutter__feed {C_Cutter : Addr} (T : Txt K mg C_Cutter) : Met P w K mg base 4 C_Cutter "feed" (spFeed C_Cutter) [] := by
  have m_Cutter___take_length := m_Cutter___take_length (P := P) (w := w) (K := K) (base := base) T
  have m_Cutter___take_text := m_Cutter___take_text (P := P) (w := w) (K := K) (base := base) T
  have m_Cutter___take_end := m_Cutter___take_end (P := P) (w := w) (K := K) (base := base) T
  refine met T.cl_Cutter T.me_Cutter__feed sc_Cutter__feed (fun vs H Q E h => ?_) (fun f cdv A outer s H vs Q E hr h => ?_)
  · obtain ⟨p, P, cs, z, rfl, _⟩ := h; rfl
  obtain ⟨p, P, cs, z, rfl, cu, hz, q⟩ := h
  have sl := sizeLine_eq
  refine ⟨_, (pss_cons (ps_set (i := 2) sc_Cutter__feed.nd rfl (Or.inl rfl) (pe_lst pa_nil))
      (pss_cons (ps_set (i := 3) sc_Cutter__feed.nd rfl (Or.inl rfl) pe_int)
      (pss_cons (ps_while PassesOwn.never (PW.pt (pw_and (pt_cmpR op_lt (pv 3) (pe_callB call_len_str (by rfl) T.z_len (by decide +kernel) (pa_cons (pv 1) pa_nil)) (nomark _)) (pw_and1 (pt_not (pt_val (pe_fld (pv 0) rfl)))))) (pss_one (ps_if (pt_cmpR op_isN (pe_fld (pv 0) rfl) pe_non (nomark _)) (pss_cons (ps_expr (pe_mt m_Cutter___take_length hr (by decide) (pv 0) (pa_cons (pe_ix ix_str (pv 1) (pv 3) (fun _ _ => rfl)) pa_nil)))
      (pss_one (ps_set (i := 3) sc_Cutter__feed.nd rfl (Or.inl rfl) (pe_op op_add (pv 3) pe_int)))) (pss_one (ps_if (pt_cmpR op_gt (pe_fld (pv 0) rfl) pe_int (nomark _)) (pss_cons (ps_set (i := 4) sc_Cutter__feed.nd rfl (Or.inl rfl) (pe_slice sl_str (pv 1) (po_some (pv 3)) (po_some (pe_op op_add (pv 3) (pe_fld (pv 0) rfl)))))
      (pss_cons (ps_expr (pe_mt m_Cutter___take_text hr (by decide) (pv 0) (pa_cons (pv 4) pa_nil)))
      (pss_one (ps_set (i := 3) sc_Cutter__feed.nd rfl (Or.inl rfl) (pe_op op_add (pv 3) (pe_callB call_len_str (by rfl) T.z_len (by decide +kernel) (pa_cons (pv 4) pa_nil))))))) (pss_cons (ps_expr (pe_bm PySem.F.plainAttrs_list PySem.F.slot_list_extend PySem.F.type_list_extend mt_extend (pv 2) (pa_cons (pe_mt m_Cutter___take_end hr (by decide) (pv 0) (pa_cons (pe_ix ix_str (pv 1) (pv 3) (fun _ _ => rfl)) pa_nil)) pa_nil)))
      (pss_one (ps_set (i := 3) sc_Cutter__feed.nd rfl (Or.inl rfl) (pe_op op_add (pv 3) pe_int)))))))))
      (pss_one (ps_ret (pv 2)))))), ?_⟩
  walk_at "rds"
  intro l hl
  have cu0 := cu.on (Same.but (S := []) (same_upd (o := .lst []) hl)) (by simp) (by simp)
  have b0 : But [p, P] H (upd H l (.lst [])) := Same.but (same_upd hl)
  have el : upd H l (.lst []) l = some (.lst (([] : List Str).map V.str)) := upd_same
  have lP : l ≠ P := fun x => by
    obtain ⟨_, _, _, _, _, _, _, e2, _⟩ := cu.at_
    rw [← x, hl] at e2; cases e2
  generalize upd H l (.lst []) = H0 at cu0 b0 el
  walk_at "rds"
  refine ⟨fun m σ H' => ∃ (a : Nat) (ys : List Str) (P' : Addr) (y : Option V), σ = [some (.ref p), some (.str z), some (.ref l), some (.int a), y] ∧ a + m = z.length ∧ CuAt C_Cutter H' p P' (cs.run (z.cps.toList.take a)).1 ∧ H' l = some (.lst (ys.map V.str)) ∧ ys.map (fun z => z.cps.toList) = (cs.run (z.cps.toList.take a)).2 ∧ But [p, P] H H' ∧ (P' = P ∨ H P' = none) ∧ l ≠ P' ∧ ys.length ≤ a,
    ⟨z.length, 0, [], P, none, rfl, by omega, by rw [List.take_zero, run_nil]; exact cu0, el, by rw [List.take_zero, run_nil]; rfl, b0, .inl rfl, lP, Nat.le_refl _⟩, ?_⟩
  rintro m σ H' ⟨a, ys, P', y, rfl, ham, cu1, el1, ey, b1, hP, lP1, ly⟩
  obtain ⟨dx, bb, ll, mm, hh, parts, e1, e2, cf⟩ := id cu1.at_
  have hout : (cs.run (z.cps.toList.take a)).1 = .bad → Q (.ref l) H' := fun eb => by
    have ec : cs.run z.cps.toList = (.bad, (cs.run (z.cps.toList.take a)).2) := by
      conv => lhs; rw [← List.take_append_drop a z.cps.toList, run_app, eb, run_bad]
      rw [List.append_nil]
    refine q H' P' l ys b1 hP ?_ el1 (by rw [ec]; exact ey) lP1 hl
    rw [ec, ← eb]; exact cu1
  have N : ∀ (b : Nat) (H2 : Hp) (P2 : Addr) (ys2 : List Str) (y2 : Option V), a < b → b ≤ z.length → CuAt C_Cutter H2 p P2 (cs.run (z.cps.toList.take b)).1 → H2 l = some (.lst (ys2.map V.str)) → ys2.map (fun z => z.cps.toList) = (cs.run (z.cps.toList.take b)).2 → But [p, P'] H' H2 ∨ But [p, P] H H2 → (P2 = P' ∨ H' P2 = none) → ys2.length ≤ b →
      ∃ m', m' < m ∧ ∃ (a : Nat) (ys : List Str) (P' : Addr) (y : Option V), [some (V.ref p), some (.str z), some (.ref l), some (.int b), y2] = [some (V.ref p), some (.str z), some (.ref l), some (.int a), y] ∧ a + m' = z.length ∧ CuAt C_Cutter H2 p P' (cs.run (z.cps.toList.take a)).1 ∧ H2 l = some (.lst (ys.map V.str)) ∧ ys.map (fun z => z.cps.toList) = (cs.run (z.cps.toList.take a)).2 ∧ But [p, P] H H2 ∧ (P' = P ∨ H P' = none) ∧ l ≠ P' ∧ ys.length ≤ a := by
    intro b H2 P2 ys2 y2 hab hb cu2 el2 ey2 b2 h2 ly2
    refine ⟨z.length - b, by omega, b, ys2, P2, y2, rfl, by omega, cu2, el2, ey2, b2.elim (fun b2 => but_next b1 hP b2) (fun x => x), fresh_next b1 hP cu1.p h2, ?_, ly2⟩
    rintro rfl
    rcases h2 with rfl | h2
    · exact lP1 rfl
    · rw [el1] at h2; cases h2
  walk_at "rds"
  by_cases ha : a < z.length
  · refine ifT (decide_eq_true (by omega)) ?_
    obtain ⟨c, hc⟩ : ∃ c, z.cps.toList[a]? = some c := ⟨_, List.getElem?_eq_getElem (by rw [len_tl]; omega)⟩
    have tk1 : z.cps.toList.take (a + 1) = z.cps.toList.take a ++ [c] := by rw [List.take_add_one, hc]; rfl
    have run1 : cs.run (z.cps.toList.take (a + 1)) = (((cs.run (z.cps.toList.take a)).1.step c).1, (cs.run (z.cps.toList.take a)).2 ++ ((cs.run (z.cps.toList.take a)).1.step c).2) := by
      rw [tk1, run_app, run_cons, run_nil, List.append_nil]
    walk_at "rds"
    refine ⟨p, _, dx, _, _, rfl, e1, T.cl_Cutter, T.na_Cutter__broken, rfl, ?_⟩
    generalize hcs : (cs.run (z.cps.toList.take a)).1 = c0 at cu1 cf hout run1
    cases cf with
    | bad =>
      walk_at "rds"
      exact hout rfl
    | len ds hds =>
      walk_at "rds"
      refine ifT rfl ⟨fun σ' H2 => ∃ (b : Nat) (P2 : Addr) (ys2 : List Str) (y2 : Option V), σ' = [some (.ref p), some (.str z), some (.ref l), some (.int b), y2] ∧ a < b ∧ b ≤ z.length ∧ CuAt C_Cutter H2 p P2 (cs.run (z.cps.toList.take b)).1 ∧ H2 l = some (.lst (ys2.map V.str)) ∧ ys2.map (fun z => z.cps.toList) = (cs.run (z.cps.toList.take b)).2 ∧ (But [p, P'] H' H2 ∨ But [p, P] H H2) ∧ (P2 = P' ∨ H' P2 = none) ∧ ys2.length ≤ b,
        (fun σ' H2 ⟨b, P2, ys2, y2, es, hab, hb, cu2, el2, ey2, b2, h2, ly2⟩ => by subst es; exact N b H2 P2 ys2 y2 hab hb cu2 el2 ey2 b2 h2 ly2), ?_⟩
      walk_at "rds"
      refine ⟨p, _, dx, _, _, rfl, e1, T.cl_Cutter, T.na_Cutter__missing, rfl, ?_⟩
      walk_at "rds"
      refine ⟨p, dx, _, rfl, e1, rfl, ?_⟩
      walk_at "rds"
      refine ⟨z, _, c, rfl, rfl, by omega, atI_nat hc, ?_⟩
      walk_at "rds"
      refine ⟨p, P', ds, c, rfl, cu1, fun H2 P2 b2 h2 cu2 => ?_⟩
      have b2' : But [p, P'] H' H2 := b2.mono (by simp)
      have el2 : H2 l = some (.lst (ys.map V.str)) := b2 _ _ (by simpa using cu1.ne el1) el1
      walk_at "rds"
      refine ⟨a + 1, P2, ys, y, ?_, by omega, by omega, ?_, el2, ?_, .inl b2', h2, by omega⟩
      · rw [show ((a + 1 : Nat) : Int) = (a : Int) + 1 from rfl]; rfl
      · rw [run1]; exact cu2
      · rw [run1]
        have : ((Cs.len ds).step c).2 = [] := by
          show (if c = 58 ∧ ds ≠ [] then _ else if isLenL (ds ++ [c]) = true then _ else _ : Cs × List (List Nat)).2 = []
          split
          · rfl
          · split <;> rfl
        rw [this, List.append_nil]; exact ey
    | txt m1 h1 l1 pts hh1 hy1 =>
      walk_at "rds"
      refine ifT rfl ⟨fun σ' H2 => ∃ (b : Nat) (P2 : Addr) (ys2 : List Str) (y2 : Option V), σ' = [some (.ref p), some (.str z), some (.ref l), some (.int b), y2] ∧ a < b ∧ b ≤ z.length ∧ CuAt C_Cutter H2 p P2 (cs.run (z.cps.toList.take b)).1 ∧ H2 l = some (.lst (ys2.map V.str)) ∧ ys2.map (fun z => z.cps.toList) = (cs.run (z.cps.toList.take b)).2 ∧ (But [p, P'] H' H2 ∨ But [p, P] H H2) ∧ (P2 = P' ∨ H' P2 = none) ∧ ys2.length ≤ b,
        (fun σ' H2 ⟨b, P2, ys2, y2, es, hab, hb, cu2, el2, ey2, b2, h2, ly2⟩ => by subst es; exact N b H2 P2 ys2 y2 hab hb cu2 el2 ey2 b2 h2 ly2), ?_⟩
      walk_at "rds"
      refine ⟨p, _, dx, _, _, rfl, e1, T.cl_Cutter, T.na_Cutter__missing, rfl, ?_⟩
      walk_at "rds"
      refine ⟨p, _, dx, _, _, rfl, e1, T.cl_Cutter, T.na_Cutter__missing, rfl, ?_⟩
      walk_at "rds"
      by_cases m0 : 0 < m1
      · refine ifT (decide_eq_true (by omega)) ?_
        walk_at "rds"
        refine ⟨p, _, dx, _, _, rfl, e1, T.cl_Cutter, T.na_Cutter__missing, rfl, ?_⟩
        walk_at "rds"
        have ct : (cutS z (some (a : Int)) (some ((a : Int) + (m1 : Int)))).cps.toList = (z.cps.toList.drop a).take m1 := by
          have := cut_mid (z := z) (i := a) (e := a + m1) (by omega)
          rw [show a + m1 - a = m1 by omega] at this
          exact this
        have lt : (cutS z (some (a : Int)) (some ((a : Int) + (m1 : Int)))).length = min m1 (z.length - a) := by
          rw [← len_tl, ct, List.length_take, List.length_drop, len_tl]
        generalize cutS z (some (a : Int)) (some ((a : Int) + (m1 : Int))) = t at ct lt ⊢
        have tk : z.cps.toList.take (a + t.length) = z.cps.toList.take a ++ t.cps.toList := by
          rw [List.take_add, ct, lt]
          congr 1
          by_cases g : m1 ≤ z.length - a
          · rw [Nat.min_eq_left g]
          · rw [Nat.min_eq_right (by omega), List.take_of_length_le (by rw [List.length_drop, len_tl]; omega), List.take_of_length_le (by rw [List.length_drop, len_tl]; omega)]
        have runt := run_txt t.cps.toList m1 (jn parts).cps.toList h1 (by rw [len_tl]; omega)
        have run2 : cs.run (z.cps.toList.take (a + t.length)) = (((Cs.txt m1 (jn parts).cps.toList h1).run t.cps.toList).1, (cs.run (z.cps.toList.take a)).2) := by
          have snd0 : ((Cs.txt m1 (jn parts).cps.toList h1).run t.cps.toList).2 = [] := by rw [runt]; split <;> rfl
          rw [tk, run_app, hcs, snd0, List.append_nil]
        walk_at "rds"
        refine ⟨p, dx, _, rfl, e1, rfl, ?_⟩
        walk_at "rds"
        refine ⟨p, P', m1, _, h1, t, rfl, cu1, by omega, by omega, fun H2 P2 b2 h2 cu2 => ?_⟩
        have el2 : H2 l = some (.lst (ys.map V.str)) := b2 _ _ (by simp only [List.mem_cons, List.not_mem_nil, or_false, not_or]; exact ⟨cu1.ne el1, lP1⟩) el1
        walk_at "rds"
        refine ⟨a + t.length, P2, ys, some (.str t), ?_, by omega, by omega, ?_, el2, ?_, .inl b2, h2, by omega⟩
        · rw [show ((a + t.length : Nat) : Int) = (a : Int) + (t.length : Int) by omega]; rfl
        · rw [run2]; exact cu2
        · rw [run2]; exact ey
      · refine ifF (decide_eq_false (by omega)) ?_
        obtain rfl : m1 = 0 := by omega
        walk_at "rds"
        refine ⟨.inl ⟨rfl, _, sq el1⟩, ?_⟩
        walk_at "rds"
        refine ⟨p, dx, _, rfl, e1, rfl, ?_⟩
        walk_at "rds"
        refine ⟨z, _, c, rfl, rfl, by omega, atI_nat hc, ?_⟩
        walk_at "rds"
        refine ⟨p, P', _, h1, c, rfl, cu1, fun H2 P2 l2 ys2 b2 h2 cu2 el2 ey2 l2P h2l => ?_⟩
        have lp := cu1.ne el1
        have lP2 : l ≠ P2 := fun x => by rw [← x, el1] at h2; cases h2
        have elH : H2 l = some (.lst (ys.map V.str)) := b2 _ _ (by simpa using lp) el1
        have ly2 : ys2.length ≤ 1 := by
          have := congrArg List.length ey2
          rw [List.length_map] at this
          rw [this]
          show ((if c = 44 then (Cs.len [], [(jn parts).cps.toList]) else (Cs.bad, []) : Cs × List (List Nat)).2).length ≤ 1
          split
          · exact Nat.le_refl _
          · exact Nat.zero_le _
        walk_at "rds"
        refine ⟨l, l2, _, _, rfl, rfl, elH, el2, by rw [List.length_map, List.length_map]; omega, ?_⟩
        have b3 : But [p, P] H (upd H2 l (.lst (ys.map V.str ++ ys2.map V.str))) := by
          intro x o nx ex
          have hx : x ≠ l := fun y => by rw [y, hl] at ex; cases ex
          rw [upd_ne hx]
          exact b2 _ _ (by simp only [List.mem_cons, List.not_mem_nil, or_false, not_or] at nx ⊢; exact nx.1) (b1 _ _ nx ex)
        walk_at "rds"
        refine ⟨a + 1, P2, ys ++ ys2, y, ?_, by omega, by omega, ?_, by rw [List.map_append]; exact upd_same, ?_, .inr b3, .inr h2, by rw [List.length_append]; omega⟩
        · rw [show ((a + 1 : Nat) : Int) = (a : Int) + 1 from rfl]; rfl
        · rw [run1]; exact cu2.on (S := [l]) (but_upd (by simp)) (by simpa using lp.symm) (by simpa using lP2.symm)
        · rw [run1, List.map_append, ey, ey2]
  · refine ifF (decide_eq_false (by omega)) ?_
    walk_at "rds"
    have tka : z.cps.toList.take a = z.cps.toList := List.take_of_length_le (by rw [len_tl]; omega)
    rw [tka] at cu1 ey
    exact q H' P' l ys b1 hP cu1 el1 ey lP1 hl
end

/-! ### streams of frames -/
def okT (t : Str) : Prop := 1 ≤ t.length ∧ t.length ≤ 90 ∧ isPr t = true
def stm : List Str → List Nat
  | [] => []
  | t :: r => frm t.cps.toList ++ stm r
def stE (ts : List Str) (j : Nat) : Nat := (stm (ts.take j)).length
theorem stm_app : ∀ (a b : List Str), stm (a ++ b) = stm a ++ stm b
  | [], b => rfl
  | t :: r, b => by rw [List.cons_append, stm, stm, stm_app r b, List.append_assoc]
theorem stm_one (t : Str) : stm [t] = frm t.cps.toList := by rw [stm, stm, List.append_nil]
theorem run_stm : ∀ (ts : List Str), (∀ t ∈ ts, okT t) → (Cs.len []).run (stm ts) = (.len [], ts.map fun z => z.cps.toList)
  | [], _ => by rw [stm, run_nil]; rfl
  | t :: r, h => by
    obtain ⟨h1, h2, h3⟩ := h t (List.mem_cons_self ..)
    rw [stm, run_app, run_frm (by rw [len_tl]; exact h1) (by rw [len_tl]; omega) h3]
    have := run_stm r (fun x hx => h x (List.mem_cons_of_mem _ hx))
    show (((Cs.len []).run (stm r)).1, [t.cps.toList] ++ ((Cs.len []).run (stm r)).2) = _
    rw [this]; rfl
theorem frm_len (t : List Nat) : (frm t).length = (TL.numL t.length).length + (t.length + 2) := by unfold frm; simp
theorem frm_le {t : Str} (h : okT t) : 3 ≤ (frm t.cps.toList).length ∧ (frm t.cps.toList).length ≤ 94 := by
  rw [frm_len, len_tl]
  have := TL.numL_len (n := t.length) (k := 2) (by decide) (by have := h.2.1; omega)
  obtain ⟨h1, h2, _⟩ := h
  constructor
  · omega
  · omega
theorem stE_succ {ts : List Str} {j : Nat} {t : Str} (h : ts[j]? = some t) : stE ts (j + 1) = stE ts j + (frm t.cps.toList).length := by
  unfold stE
  rw [List.take_add_one, h, stm_app]
  show (stm (ts.take j) ++ stm [t]).length = _
  rw [stm_one, List.length_append]
theorem stE_mono {ts : List Str} (ok : ∀ t ∈ ts, okT t) : ∀ {i j : Nat}, i < j → j ≤ ts.length → stE ts i < stE ts j := by
  intro i j h hj
  induction j with
  | zero => omega
  | succ j ih =>
    have hjl : j < ts.length := by omega
    have e := stE_succ (List.getElem?_eq_getElem hjl)
    have f := (frm_le (ok _ (List.getElem_mem hjl))).1
    by_cases g : i = j
    · subst g; omega
    · have := ih (by omega) (by omega); omega
theorem stE_le {ts : List Str} (ok : ∀ t ∈ ts, okT t) : ∀ {i j : Nat}, i ≤ j → j ≤ ts.length → stE ts i ≤ stE ts j := by
  intro i j h hj
  by_cases g : i = j
  · subst g; exact Nat.le_refl _
  · exact Nat.le_of_lt (stE_mono ok (by omega) hj)
/-- the count of whole frames within the first f codes -/
theorem stE_cnt {ts : List Str} : ∀ (f : Nat), f ≤ (stm ts).length → ∃ j, j ≤ ts.length ∧ stE ts j ≤ f ∧ (j < ts.length → f < stE ts (j + 1)) ∧ (j = ts.length → f = stE ts j) := by
  intro f hf
  have key : ∀ k, k ≤ ts.length → stE ts k ≤ f → ∀ d, ts.length - k ≤ d → ∃ j, j ≤ ts.length ∧ stE ts j ≤ f ∧ (j < ts.length → f < stE ts (j + 1)) ∧ (j = ts.length → f = stE ts j) := by
    intro k hk he d
    induction d generalizing k with
    | zero =>
      intro hd
      have e : k = ts.length := by omega
      subst e
      refine ⟨ts.length, Nat.le_refl _, he, fun z => absurd z (by omega), fun _ => ?_⟩
      have : stE ts ts.length = (stm ts).length := by unfold stE; rw [List.take_length]
      omega
    | succ d ih =>
      intro hd
      by_cases g : k < ts.length
      · by_cases g2 : stE ts (k + 1) ≤ f
        · exact ih (k + 1) (by omega) g2 (by omega)
        · exact ⟨k, hk, he, fun _ => by omega, fun z => absurd z (by omega)⟩
      · exact ih k hk he (by omega)
  exact key 0 (Nat.zero_le _) (by unfold stE; rw [List.take_zero]; exact Nat.zero_le _) ts.length (by omega)
/-- what a cutter tells and holds after the first f codes -/
theorem run_take {ts : List Str} (ok : ∀ t ∈ ts, okT t) {f j : Nat} (h1 : j ≤ ts.length) (h2 : stE ts j ≤ f) (h3 : j < ts.length → f < stE ts (j + 1)) (h4 : j = ts.length → f = stE ts j) :
    ∃ s, (Cs.len []).run ((stm ts).take f) = (s, (ts.take j).map fun z => z.cps.toList) ∧ s.held = f - stE ts j ∧ s.isBad = false := by
  have sp : stm ts = stm (ts.take j) ++ stm (ts.drop j) := by rw [← stm_app, List.take_append_drop]
  have tk : (stm ts).take f = stm (ts.take j) ++ (stm (ts.drop j)).take (f - stE ts j) := by
    rw [sp, List.take_append, List.take_of_length_le (by exact h2)]; rfl
  have r0 := run_stm (ts.take j) (fun t ht => ok t (List.mem_of_mem_take ht))
  by_cases g : j < ts.length
  · have dj : ts.drop j = ts[j] :: ts.drop (j + 1) := List.drop_eq_getElem_cons g
    have e := stE_succ (List.getElem?_eq_getElem g)
    obtain ⟨o1, o2, o3⟩ := ok _ (List.getElem_mem g)
    have hlt := h3 g
    obtain ⟨s, p1, p2, p3⟩ := run_part (t := ts[j].cps.toList) (by rw [len_tl]; exact o1) (by rw [len_tl]; omega) o3 (j := f - stE ts j) (by omega)
    refine ⟨s, ?_, p2, p3⟩
    rw [tk, dj, stm, List.take_append_of_le_length (by omega), run_app, r0, p1, List.append_nil]
  · have ej : j = ts.length := by omega
    have hf := h4 ej
    refine ⟨.len [], ?_, ?_, rfl⟩
    · rw [tk, show f - stE ts j = 0 by omega, List.take_zero, List.append_nil, r0]
    · show 0 = _; omega
theorem str_frm {t : Str} : (Str.ofString (toString (t.length : Int)) ++ Str.ofString ":" ++ t ++ Str.ofString ",").cps.toList = frm t.cps.toList := by
  rw [app_tl, app_tl, app_tl, show (Str.ofString (toString ((t.length : Nat) : Int))).cps.toList = TL.numL t.length from TL.tl_num _]
  unfold frm
  rw [len_tl]
  show (TL.numL t.length ++ [58]) ++ _ ++ [44] = _
  simp
theorem stm_len {ts : List Str} (ok : ∀ t ∈ ts, okT t) : (stm ts).length ≤ 94 * ts.length := by
  induction ts with
  | nil => exact Nat.zero_le _
  | cons t r ih =>
    have := (frm_le (ok t (List.mem_cons_self ..))).2
    have := ih (fun x hx => ok x (List.mem_cons_of_mem _ hx))
    rw [stm, List.length_append, List.length_cons]; omega

/-! ### a stream with a spoilt place, without Python -/
/-- z breaks a cutter at pl, and not before -/
def Spo (z : List Nat) (pl : Nat) : Prop := ∃ s c, z[pl]? = some c ∧ (Cs.len []).run (z.take pl) = (s, []) ∧ s.isBad = false ∧ s.step c = (.bad, [])
theorem run_good : ∀ (l r : List Nat) (s : Cs), ((s.run (l ++ r)).1).isBad = false → ((s.run l).1).isBad = false := fun l r s h => by
  cases e : (s.run l).1 with
  | bad => rw [run_app, e, run_bad] at h; cases h
  | len _ => rfl
  | txt _ _ _ => rfl
theorem spo_take {z : List Nat} {pl : Nat} (h : Spo z pl) (f : Nat) : ∃ s, (Cs.len []).run (z.take f) = (s, []) ∧ s.isBad = decide (pl < f) := by
  obtain ⟨s, c, hc, r, nb, st⟩ := h
  by_cases g : pl < f
  · refine ⟨.bad, ?_, by rw [decide_eq_true g]; rfl⟩
    have hl : pl < z.length := (List.getElem?_eq_some_iff.mp hc).1
    have e : z.take f = z.take pl ++ c :: (z.drop (pl + 1)).take (f - (pl + 1)) := by
      rw [show f = pl + 1 + (f - (pl + 1)) by omega, List.take_add, List.take_add_one, hc, show pl + 1 + (f - (pl + 1)) - (pl + 1) = f - (pl + 1) by omega]
      simp
    rw [e, run_app, r, run_cons, st, run_bad]; rfl
  · refine ⟨((Cs.len []).run (z.take f)).1, ?_, ?_⟩
    · have e : z.take pl = z.take f ++ (z.drop f).take (pl - f) := by rw [← List.take_add, show f + (pl - f) = pl by omega]
      rw [e, run_app] at r
      have := congrArg Prod.snd r
      have := (List.append_eq_nil_iff.mp this).1
      exact Prod.ext rfl this
    · have e : z.take pl = z.take f ++ (z.drop f).take (pl - f) := by rw [← List.take_add, show f + (pl - f) = pl by omega]
      rw [decide_eq_false g]
      refine run_good _ ((z.drop f).take (pl - f)) _ ?_
      rw [← e, r]; exact nb
theorem spo_app {z : List Nat} {pl : Nat} (h : Spo z pl) (r : List Nat) : Spo (z ++ r) pl := by
  obtain ⟨s, c, hc, e, nb, st⟩ := h
  have hl : pl < z.length := (List.getElem?_eq_some_iff.mp hc).1
  exact ⟨s, c, by rw [List.getElem?_append_left hl]; exact hc, by rw [List.take_append_of_le_length (by omega)]; exact e, nb, st⟩
/-- frames, then a spoilt part: what a cutter tells and whether it is broken after f codes -/
theorem spoilt_take {ts : List Str} (ok : ∀ t ∈ ts, okT t) {w : List Nat} {pl : Nat} (hw : Spo w pl) {f j : Nat} (h1 : j ≤ ts.length) (h2 : stE ts j ≤ f) (h3 : j < ts.length → f < stE ts (j + 1)) :
    ∃ s, (Cs.len []).run ((stm ts ++ w).take f) = (s, (ts.take j).map fun z => z.cps.toList) ∧ s.isBad = decide ((stm ts).length + pl < f) := by
  have en : stE ts ts.length = (stm ts).length := by unfold stE; rw [List.take_length]
  by_cases g : j < ts.length
  · have l1 := h3 g
    have l2 := stE_le ok (i := j + 1) (j := ts.length) (by omega) (Nat.le_refl _)
    obtain ⟨s, r1, _, r3⟩ := run_take ok h1 h2 h3 (fun z => absurd z (by omega))
    refine ⟨s, ?_, by rw [r3, decide_eq_false (by omega)]⟩
    rw [List.take_append_of_le_length (by omega)]; exact r1
  · have ej : j = ts.length := by omega
    subst ej
    rw [en] at h2
    obtain ⟨s, r1, r2⟩ := spo_take hw (f - (stm ts).length)
    refine ⟨s, ?_, by rw [r2]; congr 1; exact propext ⟨fun _ => by omega, fun _ => by omega⟩⟩
    rw [List.take_append, List.take_of_length_le h2, run_app, run_stm ts ok, r1, List.append_nil, List.take_length]
theorem fine_take {ts : List Str} (ok : ∀ t ∈ ts, okT t) {f j : Nat} (h1 : j ≤ ts.length) (h2 : stE ts j ≤ f) (h3 : j < ts.length → f < stE ts (j + 1)) :
    ∃ s, (Cs.len []).run ((stm ts).take f) = (s, (ts.take j).map fun z => z.cps.toList) ∧ s.isBad = false := by
  have en : stE ts ts.length = (stm ts).length := by unfold stE; rw [List.take_length]
  by_cases g : j < ts.length
  · obtain ⟨s, r1, _, r3⟩ := run_take ok h1 h2 h3 (fun z => absurd z (by omega))
    exact ⟨s, r1, r3⟩
  · have ej : j = ts.length := by omega
    subst ej
    refine ⟨.len [], ?_, rfl⟩
    rw [List.take_of_length_le (by omega), List.take_length, run_stm ts ok]
/-! ### the six spoilt parts -/
theorem step_bad {ds : List Nat} {c : Nat} (h1 : ¬ (c = 58 ∧ ds ≠ [])) (h2 : isLenL (ds ++ [c]) = false) : (Cs.len ds).step c = (.bad, []) := by
  show (if c = 58 ∧ ds ≠ [] then ((.txt (PySem.NumText.digitsVal ds) [] (ds.length + 1), []) : Cs × List (List Nat)) else if isLenL (ds ++ [c]) = true then (.len (ds ++ [c]), []) else (.bad, [])) = _
  rw [if_neg h1, h2]; rfl
theorem spo0 (r : List Nat) : Spo (48 :: r) 0 := ⟨.len [], 48, rfl, rfl, rfl, step_bad (by decide) (by decide +kernel)⟩
theorem spo5 (r : List Nat) : Spo (58 :: r) 0 := ⟨.len [], 58, rfl, rfl, rfl, step_bad (by decide) (by decide +kernel)⟩
theorem dcL_not {l : List Nat} {c : Nat} (h : ¬ (48 ≤ c ∧ c ≤ 57)) : isLenL (l ++ [c]) = false := by
  cases e : isLenL (l ++ [c]) with
  | false => rfl
  | true =>
    obtain ⟨d, _⟩ := isLenL_inv e
    have := (dcL_iff.mp d).2.1 c (by simp)
    exact absurd this (by omega)
theorem spo1 {n : Nat} (h1 : 1 ≤ n) (h2 : n ≤ 100000) {c : Nat} (hc : ¬ (48 ≤ c ∧ c ≤ 57)) (h58 : c ≠ 58) (r : List Nat) : Spo (TL.numL n ++ c :: r) (TL.numL n).length := by
  have rd := run_digits h1 h2 (TL.numL n).length (Nat.le_refl _)
  rw [List.take_length] at rd
  refine ⟨_, c, by rw [List.getElem?_append_right (Nat.le_refl _), Nat.sub_self]; rfl, by rw [List.take_left]; exact rd, rfl, ?_⟩
  show (if c = 58 ∧ _ then _ else if isLenL _ = true then _ else _) = _
  rw [if_neg (fun z => h58 z.1), dcL_not hc]; rfl
theorem spo2 (r : List Nat) : Spo ([49, 48, 48, 48, 48, 49] ++ r) 5 := by
  refine spo_app (z := [49, 48, 48, 48, 48, 49]) (pl := 5) ⟨.len [49, 48, 48, 48, 48], 49, rfl, ?_, rfl, step_bad (by decide) (by decide +kernel)⟩ r
  have := run_digits (n := 10000) (by decide) (by decide) 5 (by decide +kernel)
  have e : (TL.numL 10000).take 5 = [49, 48, 48, 48, 48] := by decide +kernel
  rw [e] at this
  exact this
theorem spo4 {t : List Nat} (h1 : 1 ≤ t.length) (h2 : t.length ≤ 100000) (hp : prL t = true) {i : Nat} (hi : i < t.length) (r : List Nat) : Spo (TL.numL t.length ++ 58 :: (t.take i ++ 10 :: r)) ((TL.numL t.length).length + 1 + i) := by
  have e : TL.numL t.length ++ 58 :: (t.take i ++ 10 :: r) = ((TL.numL t.length ++ [58]) ++ t.take i) ++ 10 :: r := by simp
  have l : ((TL.numL t.length ++ [58]) ++ t.take i).length = (TL.numL t.length).length + 1 + i := by
    rw [List.length_append, List.length_append, List.length_take]; show _ + 1 + _ = _; omega
  rw [e, ← l]
  refine ⟨.txt (t.length - (t.take i).length) ([] ++ t.take i) ((TL.numL t.length).length + 1 + (t.take i).length), 10, by rw [List.getElem?_append_right (Nat.le_refl _), Nat.sub_self]; rfl, ?_, ?_, ?_⟩
  · rw [List.take_left, run_app, run_head h1 h2, run_txt _ _ _ _ (by rw [List.length_take]; omega), if_pos (show prL (t.take i) = true from List.all_eq_true.mpr fun c hc => List.all_eq_true.mp hp c (List.mem_of_mem_take hc))]
    rfl
  · rfl
  · rw [List.length_take, show t.length - min i t.length = (t.length - i - 1) + 1 by omega]
    rfl
theorem spo3 {t : List Nat} (h1 : 1 ≤ t.length) (h2 : t.length ≤ 100000) (hp : prL t = true) (r : List Nat) : Spo (TL.numL t.length ++ 58 :: (t ++ 59 :: r)) ((TL.numL t.length).length + 1 + t.length) := by
  have e : TL.numL t.length ++ 58 :: (t ++ 59 :: r) = ((TL.numL t.length ++ [58]) ++ t) ++ 59 :: r := by simp
  have l : ((TL.numL t.length ++ [58]) ++ t).length = (TL.numL t.length).length + 1 + t.length := by
    rw [List.length_append, List.length_append]; rfl
  rw [e, ← l]
  refine ⟨.txt 0 ([] ++ t) ((TL.numL t.length).length + 1 + t.length), 59, by rw [List.getElem?_append_right (Nat.le_refl _), Nat.sub_self]; rfl, ?_, ?_, ?_⟩
  · rw [List.take_left, run_app, run_head h1 h2, run_txt _ _ _ _ (Nat.le_refl _), if_pos hp, Nat.sub_self]
    rfl
  · rfl
  · rfl
theorem map_tl : ∀ {a b : List Str}, a.map (fun z : Str => z.cps.toList) = b.map (fun z : Str => z.cps.toList) → a = b
  | [], [], _ => rfl
  | [], _ :: _, h => by cases h
  | _ :: _, [], h => by cases h
  | x :: a, y :: b, h => by
    rw [List.map_cons, List.map_cons] at h
    injection h with h1 h2
    rw [str_eq_l.mpr h1, map_tl h2]

def spTruth : Sp := fun vs H Q _ => ∃ (a b : Bool), vs = [.bl a, .bl b] ∧ Q (.bl (decide (V.bl a = V.bl b))) H
def spFed (C : Addr) : Sp := fun vs H Q _ => ∃ (p P d : Addr) (cs : Cs) (z : Str) (ys : List Str), vs = [.ref p, .str z, .ref d] ∧ CuAt C H p P cs ∧ z.length ≤ 1000000 ∧ H d = some (.lst (ys.map V.str)) ∧ d ≠ p ∧ d ≠ P ∧ ys.length ≤ 1000 ∧ ys.map (fun z => z.cps.toList) = (cs.run z.cps.toList).2 ∧
  ∀ (H' : Hp) (P' : Addr), But [p, P] H H' → (P' = P ∨ H P' = none) → CuAt C H' p P' (cs.run z.cps.toList).1 → Q (.bl true) H'
def spSpoilt : Sp := fun vs H Q _ => ∃ (D A : Addr), vs = [.ref D, .ref A] ∧ Dr H D A ∧
  ∀ (H' : Hp) (b : Addr) (z : Str) (pl : Int), Mod A H H' → Dr H' D A → H' b = some (.tup [.str z, .int pl]) → z.length ≤ 200 → ((z.cps.toList = [] ∧ pl = -1) ∨ ∃ n : Nat, pl = n ∧ Spo z.cps.toList n) → Q (.ref b) H'
section
variable {P : Program} {w : World} {K : PySem.W.Frag} {mg : Str → Option Value} {base : Heap}
theorem c__law_truth {C_Cutter : Addr} (T : Txt K mg C_Cutter) : Cal P w K mg base 1 "_law_truth" spTruth [] := by
  refine cal T.d__law_truth sc__law_truth (fun vs H Q E h => ?_) (fun f cdv A' outer s H vs Q E hr h => ?_)
  · obtain ⟨a, b, rfl, _⟩ := h; rfl
  obtain ⟨a, b, rfl, q⟩ := h
  refine ⟨_, (pss_one (ps_ret (pe_and (pe_callB (kisi (K := K)) (by rfl) T.z_isinstance (by decide +kernel) (pa_cons (pv 0) (pa_cons (pe_bltn (v := .ty "bool") (by rfl) T.z_bool (by decide +kernel) rfl) pa_nil))) (pe_one (pe_cmpR op_eq (pv 0) (pv 1) (nomark _)))))), ?_⟩
  walk_at "rds"
  walk_at "isi"
  walk_at "rds"
  exact q
theorem c__law_fed {C_Cutter : Addr} (T : Txt K mg C_Cutter) : Cal P w K mg base 5 "_law_fed" (spFed C_Cutter) [] := by
  have m_Cutter__feed := m_Cutter__feed (P := P) (w := w) (K := K) (base := base) T
  refine cal T.d__law_fed sc__law_fed (fun vs H Q E h => ?_) (fun f cdv A' outer s H vs Q E hr h => ?_)
  · obtain ⟨p, Q', d, cs, z, ys, rfl, _⟩ := h; rfl
  obtain ⟨p, Q1, d, cs, z, ys, rfl, cu, hz, hd, dp, dQ, hl, er, q⟩ := h
  refine ⟨_, (pss_cons (ps_set (i := 3) sc__law_fed.nd rfl (Or.inl rfl) (pe_mt m_Cutter__feed hr (by decide) (pv 0) (pa_cons (pv 1) pa_nil)))
      (pss_cons (ps_if (PW.pt (pw_or (pt_not (pt_val (pe_callB (kisi (K := K)) (by rfl) T.z_isinstance (by decide +kernel) (pa_cons (pv 3) (pa_cons (pe_bltn (v := .ty "list") (by rfl) T.z_list (by decide +kernel) rfl) pa_nil))))) (pw_or1 (pt_cmpR op_ne (pe_callB (klen (K := K)) (by rfl) T.z_len (by decide +kernel) (pa_cons (pv 3) pa_nil)) (pe_callB (klen (K := K)) (by rfl) T.z_len (by decide +kernel) (pa_cons (pv 2) pa_nil)) (nomark _))))) (pss_one (ps_ret pe_bl)) pss_nil)
      (pss_cons (ps_for PassesOwn.never rfl (pi_range1 (by rfl) T.z_range (pa_cons (pe_callB (klen (K := K)) (by rfl) T.z_len (by decide +kernel) (pa_cons (pv 2) pa_nil)) pa_nil)) (pg_name (i := 4) sc__law_fed.nd rfl (Or.inl rfl)) (pss_one (ps_if (PW.pt (pw_or (pt_not (pt_val (pe_callB (kisi (K := K)) (by rfl) T.z_isinstance (by decide +kernel) (pa_cons (pe_ix (kixl (K := K)) (pv 3) (pv 4) (fun _ _ => rfl)) (pa_cons (pe_bltn (v := .ty "str") (by rfl) T.z_str (by decide +kernel) rfl) pa_nil))))) (pw_or1 (pt_cmpR op_ne (pe_ix (kixl (K := K)) (pv 3) (pv 4) (fun _ _ => rfl)) (pe_ix (kixl (K := K)) (pv 2) (pv 4) (fun _ _ => rfl)) (nomark _))))) (pss_one (ps_ret pe_bl)) pss_nil)))
      (pss_one (ps_ret pe_bl))))), ?_⟩
  have lm : (ys.map V.str).length = ys.length := List.length_map _
  obtain ⟨dxa, _, _, _, _, _, ka, _⟩ := id cu.at_
  walk_at "rds"
  refine ⟨p, dxa, _, rfl, ka, rfl, ?_⟩
  walk_at "rds"
  refine ⟨p, Q1, _, z, rfl, cu, hz, fun H1 Q2 l xs b1 hQ cu1 el ey lQ fl => ?_⟩
  have hd1 := b1 d _ (by simp [dp, dQ]) hd
  rw [← er] at ey
  have := map_tl ey
  subst this
  have lA : (List.map V.str xs).length = xs.length := List.length_map _
  have N := fun H' (s : Same H1 H') => q H' Q2 (b1.trans (Same.but s)) hQ (cu1.on (Same.but (S := []) s) (by simp) (by simp))
  walk_at "rds"
  refine ⟨_, .ty _, _, _, true, rfl, .ty _, .base (.lst el), kit_ty (by decide +kernel), ?_⟩
  walk_at "rds"
  refine ⟨l, _, rfl, .inl (sq el), ?_⟩
  walk_at "rds"
  refine ⟨d, _, rfl, .inl (sq hd1), ?_⟩
  walk_at "rds"
  refine ifF (by rw [decide_eq_true rfl]; rfl) ?_
  walk_at "rds"
  refine ⟨d, _, rfl, .inl (sq hd1), ?_⟩
  rw [lA]
  walk_at "rds"
  refine for_it walk_range (Pv := fun i σ H' => ∃ (y : Option V), σ = [some (.ref p), some (.str z), some (.ref d), some (.ref l), y] ∧ Same H1 H') ⟨none, rfl, Same.refl _⟩ (fun _ _ _ _ _ => trivial) (fun i x σ H3 H4 hi hp hy => ?_) (fun σ H3 hp => ?_)
  · obtain ⟨y, rfl, s3⟩ := hp
    obtain ⟨rfl, rfl⟩ := hy
    have hi' : i < xs.length := by omega
    have ha3 := s3 _ _ el
    have hb3 := s3 _ _ hd1
    have g : (xs.map V.str)[i]? = some (.str xs[i]) := by rw [List.getElem?_map, List.getElem?_eq_getElem hi']; rfl
    walk_at "rds"
    refine ⟨l, _, (i : Int), _, rfl, congrArg V.int (by omega), sq ha3, atI_nat g, ?_⟩
    walk_at "rds"
    walk_at "isi"
    walk_at "rds"
    refine ⟨l, _, (i : Int), _, rfl, congrArg V.int (by omega), sq ha3, atI_nat g, ?_⟩
    walk_at "rds"
    refine ⟨d, _, (i : Int), _, rfl, congrArg V.int (by omega), sq hb3, atI_nat g, ?_⟩
    walk_at "rds"
    refine ifF (by rw [decide_eq_true rfl]; rfl) ?_
    exact ⟨_, rfl, s3⟩
  · obtain ⟨y, rfl, s3⟩ := hp
    walk_at "rds"
    exact N _ s3
theorem c__law_spoilt {C_Cutter : Addr} (T : Txt K mg C_Cutter) : Cal P w K mg base 3 "_law_spoilt" spSpoilt [] := by
  have c__law_next := c__law_next (P := P) (w := w) (base := base) T
  have c__law_string := c__law_string (P := P) (w := w) (base := base) T
  refine cal T.d__law_spoilt sc__law_spoilt (fun vs H Q E h => ?_) (fun f cdv A' outer s H vs Q E hr h => ?_)
  · obtain ⟨D, A, rfl, _⟩ := h; rfl
  obtain ⟨D, A, rfl, dr, q⟩ := h
  refine ⟨_, (pss_cons (ps_set (i := 2) sc__law_spoilt.nd rfl (Or.inl rfl) (pe_op op_add_str (pe_c c__law_string hr (by decide) (by rfl) (pa_cons (pv 0) (pa_cons (pv 1) (pa_cons pe_int pa_nil)))) pe_str))
      (pss_cons (ps_set (i := 3) sc__law_spoilt.nd rfl (Or.inl rfl) (pe_callTy call_str_int (by rfl) T.z_str (by decide +kernel) (pa_cons (pe_callB call_len_str (by rfl) T.z_len (by decide +kernel) (pa_cons (pv 2) pa_nil)) pa_nil)))
      (pss_cons (ps_set (i := 4) sc__law_spoilt.nd rfl (Or.inl rfl) (pe_c c__law_next hr (by decide) (by rfl) (pa_cons (pv 0) (pa_cons (pv 1) (pa_cons pe_int pa_nil)))))
      (pss_cons (ps_if (pt_cmpR op_eq (pv 4) pe_int (nomark _)) (pss_one (ps_ret (pe_tup (pa_cons (pe_op op_add_str (pe_op op_add_str (pe_op op_add_str (pe_op op_add_str pe_str (pv 3)) pe_str) (pv 2)) pe_str) (pa_cons pe_int pa_nil))))) pss_nil)
      (pss_cons (ps_if (pt_cmpR op_eq (pv 4) pe_int (nomark _)) (pss_cons (ps_set (i := 5) sc__law_spoilt.nd rfl (Or.inl rfl) (pe_ix ix_str pe_str (pe_c c__law_next hr (by decide) (by rfl) (pa_cons (pv 0) (pa_cons (pv 1) (pa_cons pe_int pa_nil)))) (fun _ _ => rfl)))
      (pss_one (ps_ret (pe_tup (pa_cons (pe_op op_add_str (pe_op op_add_str (pe_op op_add_str (pv 3) (pv 5)) pe_str) (pv 2)) (pa_cons (pe_callB call_len_str (by rfl) T.z_len (by decide +kernel) (pa_cons (pv 3) pa_nil)) pa_nil)))))) pss_nil)
      (pss_cons (ps_if (pt_cmpR op_eq (pv 4) pe_int (nomark _)) (pss_one (ps_ret (pe_tup (pa_cons (pe_op op_add_str pe_str (pv 2)) (pa_cons pe_int pa_nil))))) pss_nil)
      (pss_cons (ps_if (pt_cmpR op_eq (pv 4) pe_int (nomark _)) (pss_one (ps_ret (pe_tup (pa_cons (pe_op op_add_str (pe_op op_add_str (pe_op op_add_str (pv 3) pe_str) (pv 2)) pe_str) (pa_cons (pe_op op_add (pe_op op_add (pe_callB call_len_str (by rfl) T.z_len (by decide +kernel) (pa_cons (pv 3) pa_nil)) pe_int) (pe_callB call_len_str (by rfl) T.z_len (by decide +kernel) (pa_cons (pv 2) pa_nil))) pa_nil))))) pss_nil)
      (pss_cons (ps_if (pt_cmpR op_eq (pv 4) pe_int (nomark _)) (pss_cons (ps_set (i := 6) sc__law_spoilt.nd rfl (Or.inl rfl) (pe_c c__law_next hr (by decide) (by rfl) (pa_cons (pv 0) (pa_cons (pv 1) (pa_cons (pe_callB call_len_str (by rfl) T.z_len (by decide +kernel) (pa_cons (pv 2) pa_nil)) pa_nil)))))
      (pss_one (ps_ret (pe_tup (pa_cons (pe_op op_add_str (pe_op op_add_str (pe_op op_add_str (pe_op op_add_str (pe_op op_add_str (pv 3) pe_str) (pe_slice sl_str (pv 2) po_none (po_some (pv 6)))) pe_str) (pe_slice sl_str (pv 2) (po_some (pe_op op_add (pv 6) pe_int)) po_none)) pe_str) (pa_cons (pe_op op_add (pe_op op_add (pe_callB call_len_str (by rfl) T.z_len (by decide +kernel) (pa_cons (pv 3) pa_nil)) pe_int) (pv 6)) pa_nil)))))) pss_nil)
      (pss_cons (ps_if (pt_cmpR op_eq (pv 4) pe_int (nomark _)) (pss_one (ps_ret (pe_tup (pa_cons (pe_op op_add_str pe_str (pv 2)) (pa_cons pe_int pa_nil))))) pss_nil)
      (pss_one (ps_ret (pe_tup (pa_cons pe_str (pa_cons (pe_un un_neg pe_int) pa_nil)))))))))))))), ?_⟩
  walk_at "rds"
  refine ⟨D, A, 60, rfl, dr, by decide, by decide, fun H1 z lz pz md1 dr1 => ?_⟩
  walk_at "rds"
  have ea : (Str.ofString "a").length = 1 := rfl
  have lt : (z ++ Str.ofString "a").length = z.length + 1 := by rw [len_app2, ea]
  have pt : isPr (z ++ Str.ofString "a") = true := by rw [isPr_app, pz]; rfl
  have nt : (Str.ofString (toString ((z ++ Str.ofString "a").length : Int))).cps.toList = TL.numL (z ++ Str.ofString "a").length := TL.tl_num _
  have st : (Str.ofString (toString ((z ++ Str.ofString "a").length : Int))).length ≤ 8 := by
    have := int_text_length_le10 (a := ((z ++ Str.ofString "a").length : Int)) (k := 7) (by decide) (by omega)
    rw [PySem.ofString_length]; exact this
  have lg : (((z ++ Str.ofString "a").length : Int)).natAbs.log2 < 1920 := by
    by_cases h0 : (((z ++ Str.ofString "a").length : Int)).natAbs = 0
    · rw [h0]; decide
    · exact (Nat.log2_lt h0).mpr (Nat.lt_of_lt_of_le (show _ < 2 ^ 20 by omega) (Nat.pow_le_pow_right (by decide) (by decide)))
  have sl := sizeLine_eq
  refine ⟨by omega, ?_⟩
  walk_at "rds"
  refine ⟨lg, ?_⟩
  have tt : (z ++ Str.ofString "a").cps.toList.length = (z ++ Str.ofString "a").length := len_tl _
  have pt' : prL (z ++ Str.ofString "a").cps.toList = true := pt
  generalize z ++ Str.ofString "a" = t at lt pt nt st tt pt' ⊢
  generalize Str.ofString (toString (t.length : Int)) = n at nt st ⊢
  rw [← tt] at nt
  have ln : n.length = (TL.numL t.cps.toList.length).length := by rw [← nt, len_tl]
  have t1 : 1 ≤ t.cps.toList.length := by omega
  have t2 : t.cps.toList.length ≤ 100000 := by omega
  have cut := fun i => cutS_length t none (some (i : Int))
  have cut2 := fun i => cutS_length t (some (i : Int)) none
  have en : (Str.ofString "\n").length = 1 := by decide +kernel
  have es : (Str.ofString ";").length = 1 := rfl
  have eh : (Str.ofString "100001:").length = 7 := by decide +kernel
  walk_at "rds"
  refine ⟨D, A, 8, rfl, dr1, by decide, fun H2 ch c0 c1 md2 dr2 => ?_⟩
  have md := md1.trans md2
  have leaf : ∀ (b : Addr) (y : Str) (pl : Int), H2 b = none → y.length ≤ 200 → ((y.cps.toList = [] ∧ pl = -1) ∨ ∃ n : Nat, pl = n ∧ Spo y.cps.toList n) → Q (.ref b) (upd H2 b (.tup [.str y, .int pl])) := fun b y pl hb ly sp =>
    q _ b y pl (md.trans (Same.mod (same_upd hb))) (dr2.new hb) upd_same ly sp
  have ec : (Str.ofString ":").length = 1 := rfl
  have em : (Str.ofString ",").length = 1 := rfl
  have e0 : (Str.ofString "0").length = 1 := rfl
  walk_at "rds"
  refine ite2 (fun _ => ?_) (fun _ => ?_)
  · walk_at "rds"
    refine ⟨by rw [len_app2]; omega, ?_⟩
    walk_at "rds"
    refine ⟨by simp only [len_app2]; omega, ?_⟩
    walk_at "rds"
    refine ⟨by simp only [len_app2]; omega, ?_⟩
    walk_at "rds"
    refine fun b hb => leaf b _ _ hb (by simp only [len_app2]; omega) (.inr ⟨0, rfl, ?_⟩)
    simp only [app_tl]
    exact spo0 _
  walk_at "rds"
  refine ite2 (fun _ => ?_) (fun _ => ?_)
  · walk_at "rds"
    refine ⟨D, A, 9, rfl, dr2, by decide, fun H3 k k0 k1 md3 dr3 => ?_⟩
    obtain ⟨c, hc⟩ := chr_at (z := Str.ofString "abc,; -+.") (i := k) (by omega) (by rw [show (Str.ofString "abc,; -+.").length = 9 by decide +kernel]; omega)
    have hm : c ∈ (Str.ofString "abc,; -+.").cps.toList := by
      obtain ⟨j, _, e, _⟩ := atI_get hc
      exact List.mem_of_getElem? e
    have hcs : ¬ (48 ≤ c ∧ c ≤ 57) ∧ c ≠ 58 := (show ∀ c ∈ (Str.ofString "abc,; -+.").cps.toList, ¬ (48 ≤ c ∧ c ≤ 57) ∧ c ≠ 58 by decide +kernel) c hm
    refine ⟨_, _, c, rfl, rfl, by rw [show (Str.ofString "abc,; -+.").length = 9 by decide +kernel]; exact sz1000 (by omega), hc, ?_⟩
    have l1 : (⟨#[c]⟩ : Str).length = 1 := rfl
    walk_at "rds"
    refine ⟨by simp only [len_app2]; omega, ?_⟩
    walk_at "rds"
    refine ⟨by simp only [len_app2]; omega, ?_⟩
    walk_at "rds"
    refine fun b hb => q _ b _ _ ((md.trans md3).trans (Same.mod (same_upd hb))) (dr3.new hb) upd_same (by simp only [len_app2]; omega) (.inr ⟨n.length, rfl, ?_⟩)
    have := spo1 (n := t.cps.toList.length) t1 t2 hcs.1 hcs.2 ([58] ++ t.cps.toList)
    rw [← nt, len_tl] at this
    simp only [app_tl, List.append_assoc]
    exact this
  walk_at "rds"
  refine ite2 (fun _ => ?_) (fun _ => ?_)
  · walk_at "rds"
    refine fun b hb => leaf b _ _ hb (by simp only [len_app2]; omega) (.inr ⟨5, rfl, ?_⟩)
    rw [app_tl]
    exact spo2 ([58] ++ t.cps.toList)
  walk_at "rds"
  refine ite2 (fun _ => ?_) (fun _ => ?_)
  · walk_at "rds"
    refine ⟨by simp only [len_app2]; omega, ?_⟩
    walk_at "rds"
    refine ⟨by simp only [len_app2]; omega, ?_⟩
    walk_at "rds"
    refine fun b hb => leaf b _ _ hb (by simp only [len_app2]; omega) (.inr ⟨n.length + 1 + t.length, rfl, ?_⟩)
    have := spo3 t1 t2 pt' []
    rw [← nt, len_tl, len_tl] at this
    simp only [app_tl, List.append_assoc]
    exact this
  walk_at "rds"
  refine ite2 (fun _ => ?_) (fun _ => ?_)
  · walk_at "rds"
    refine ⟨D, A, (t.length : Int), rfl, dr2, by omega, fun H3 k k0 k1 md3 dr3 => ?_⟩
    obtain ⟨k, rfl⟩ := Int.eq_ofNat_of_zero_le k0
    have hk : k < t.cps.toList.length := by omega
    have c1 := cutS_length t none (some (k : Int))
    have c2 := cutS_length t (some ((k : Int) + 1)) none
    walk_at "rds"
    refine ⟨by simp only [len_app2]; omega, ?_⟩
    walk_at "rds"
    refine ⟨by simp only [len_app2]; omega, ?_⟩
    walk_at "rds"
    refine ⟨by simp only [len_app2]; omega, ?_⟩
    walk_at "rds"
    refine ⟨by simp only [len_app2]; omega, ?_⟩
    walk_at "rds"
    refine fun b hb => q _ b _ _ ((md.trans md3).trans (Same.mod (same_upd hb))) (dr3.new hb) upd_same (by simp only [len_app2]; omega) (.inr ⟨n.length + 1 + k, rfl, ?_⟩)
    have := spo4 t1 t2 pt' hk ((cutS t (some ((k : Int) + 1)) none).cps.toList ++ [44])
    rw [← nt, len_tl, ← cut_to] at this
    simp only [app_tl, List.append_assoc]
    exact this
  walk_at "rds"
  refine ite2 (fun _ => ?_) (fun _ => ?_)
  · walk_at "rds"
    exact fun b hb => leaf b _ _ hb (by simp only [len_app2]; omega) (.inr ⟨0, rfl, by rw [app_tl]; exact spo5 _⟩)
  walk_at "rds"
  exact fun b hb => leaf b _ _ hb (by decide +kernel) (.inl ⟨rfl, rfl⟩)
end

--@SPLIT
section
variable {P : Program} {w : World} {K : PySem.W.Frag} {mg : Str → Option Value} {base : Heap}
theorem ok_law {C_Cutter : Addr} {f : Addr} {fd : FuncData} (F : L2.Fun K "law" "law" s_law f fd) (T : Txt K mg C_Cutter) : FnOk P w K mg base L2.CX0 13 f fd ["script"] (spLaw K) := by
  have c__law_draws := c__law_draws (P := P) (w := w) (base := base) T
  have c__law_next := c__law_next (P := P) (w := w) (base := base) T
  have c__law_char := c__law_char (P := P) (w := w) (base := base) T
  have c__law_string := c__law_string (P := P) (w := w) (base := base) T
  have c__law_truth := c__law_truth (P := P) (w := w) (base := base) T
  have c__law_spoilt := c__law_spoilt (P := P) (w := w) (base := base) T
  have c__law_fed := c__law_fed (P := P) (w := w) (K := K) (base := base) T
  have k_Cutter := k_Cutter (P := P) (w := w) (K := K) (base := base) T
  have m_Cutter__broken := m_Cutter__broken (P := P) (w := w) (K := K) (base := base) T
  have m_Cutter__waiting := m_Cutter__waiting (P := P) (w := w) (K := K) (base := base) T
  refine F.ok sc_law (fun vs H Q E h => ?_) (fun cdv A' outer s H vs Q E hr h => ?_)
  · obtain ⟨a, ns, rfl, _⟩ := h; rfl
  obtain ⟨a, ns, rfl, hS, hlen, q⟩ := h
  have sl := sizeLine_eq
  refine ⟨_, (pss_cons (ps_set (i := 1) sc_law.nd rfl (Or.inl rfl) (pe_c c__law_draws hr (by decide) (by rfl) (pa_cons (pv 0) pa_nil)))
      (pss_cons (ps_set (i := 2) sc_law.nd rfl (Or.inl rfl) (pe_lst (pa_cons pe_int pa_nil)))
      (pss_cons (ps_set (i := 3) sc_law.nd rfl (Or.inr rfl) (pe_lst pa_nil))
      (pss_cons (ps_set (i := 4) sc_law.nd rfl (Or.inr rfl) (pe_lst pa_nil))
      (pss_cons (ps_set (i := 5) sc_law.nd rfl (Or.inl rfl) pe_str)
      (pss_cons (ps_for PassesOwn.never rfl (pi_range1 (by rfl) T.z_range (pa_cons (pe_c c__law_next hr (by decide) (by rfl) (pa_cons (pv 1) (pa_cons (pv 2) (pa_cons pe_int pa_nil)))) pa_nil)) (pg_name (i := 6) sc_law.nd rfl (Or.inl rfl)) (pss_cons (ps_expr (pe_bm PySem.F.plainAttrs_list PySem.F.slot_list_append PySem.F.type_list_append mt_append (pv 3) (pa_cons (pe_op op_add_str (pe_c c__law_string hr (by decide) (by rfl) (pa_cons (pv 1) (pa_cons (pv 2) (pa_cons pe_int pa_nil)))) (pe_c c__law_char hr (by decide) (by rfl) (pa_cons (pe_c c__law_next hr (by decide) (by rfl) (pa_cons (pv 1) (pa_cons (pv 2) (pa_cons pe_int pa_nil)))) pa_nil))) pa_nil)))
      (pss_cons (ps_set (i := 5) sc_law.nd rfl (Or.inl rfl) (pe_op op_add_str (pe_op op_add_str (pe_op op_add_str (pe_op op_add_str (pv 5) (pe_callTy call_str_int (by rfl) T.z_str (by decide +kernel) (pa_cons (pe_callB call_len_str (by rfl) T.z_len (by decide +kernel) (pa_cons (pe_ix (kixl (K := K)) (pv 3) (pv 6) (fun _ _ => rfl)) pa_nil)) pa_nil))) pe_str) (pe_ix (kixl (K := K)) (pv 3) (pv 6) (fun _ _ => rfl))) pe_str))
      (pss_one (ps_expr (pe_bm PySem.F.plainAttrs_list PySem.F.slot_list_append PySem.F.type_list_append mt_append (pv 4) (pa_cons (pe_callB call_len_str (by rfl) T.z_len (by decide +kernel) (pa_cons (pv 5) pa_nil)) pa_nil)))))))
      (pss_cons (ps_set (i := 7) sc_law.nd rfl (Or.inl rfl) (pe_c c__law_spoilt hr (by decide) (by rfl) (pa_cons (pv 1) (pa_cons (pv 2) pa_nil))))
      (pss_cons (ps_set (i := 8) sc_law.nd rfl (Or.inl rfl) (pe_op op_add (pe_callB call_len_str (by rfl) T.z_len (by decide +kernel) (pa_cons (pv 5) pa_nil)) (pe_op op_pow pe_int pe_int)))
      (pss_cut (ps_if (pt_cmpR op_ge (pe_ix (kixt (K := K)) (pv 7) pe_int (fun _ _ => rfl)) pe_int (nomark _)) (pss_cons (ps_set (i := 8) sc_law.nd rfl (Or.inl rfl) (pe_op op_add (pe_callB call_len_str (by rfl) T.z_len (by decide +kernel) (pa_cons (pv 5) pa_nil)) (pe_ix (kixt (K := K)) (pv 7) pe_int (fun _ _ => rfl))))
      (pss_one (ps_set (i := 5) sc_law.nd rfl (Or.inl rfl) (pe_op op_add_str (pe_op op_add_str (pv 5) (pe_ix (kixt (K := K)) (pv 7) pe_int (fun _ _ => rfl))) (pe_c c__law_string hr (by decide) (by rfl) (pa_cons (pv 1) (pa_cons (pv 2) (pa_cons pe_int pa_nil)))))))) pss_nil)
      (pss_cons (ps_set (i := 9) sc_law.nd rfl (Or.inl rfl) (pe_mk0 k_Cutter hr (by decide) (by rfl)))
      (pss_cons (ps_if (PW.pt (pw_or (pt_not (pt_val (pe_c c__law_fed hr (by decide) (by rfl) (pa_cons (pv 9) (pa_cons (pv 5) (pa_cons (pv 3) pa_nil)))))) (pw_or1 (pt_not (pt_val (pe_c c__law_truth hr (by decide) (by rfl) (pa_cons (pe_mt0 m_Cutter__broken hr (by decide) (pv 9)) (pa_cons (pe_cmpR op_ge (pe_ix (kixt (K := K)) (pv 7) pe_int (fun _ _ => rfl)) pe_int (nomark _)) pa_nil)))))))) (pss_one (ps_ret pe_bl)) pss_nil)
      (pss_cons (ps_set (i := 10) sc_law.nd rfl (Or.inl rfl) (pe_mk0 k_Cutter hr (by decide) (by rfl)))
      (pss_cons (ps_set (i := 11) sc_law.nd rfl (Or.inr rfl) pe_int)
      (pss_cons (ps_set (i := 12) sc_law.nd rfl (Or.inl rfl) pe_int)
      (pss_cons (ps_for PassesOwn.never rfl (pi_range1 (by rfl) T.z_range (pa_cons pe_int pa_nil)) (pg_name (i := 6) sc_law.nd rfl (Or.inl rfl)) (pss_cons (ps_set (i := 13) sc_law.nd rfl (Or.inr rfl) (pe_c c__law_next hr (by decide) (by rfl) (pa_cons (pv 1) (pa_cons (pv 2) (pa_cons pe_int pa_nil)))))
      (pss_cut (ps_if (pt_cmpR op_eq (pv 6) pe_int (nomark _)) (pss_one (ps_set (i := 13) sc_law.nd rfl (Or.inr rfl) (pe_callB call_len_str (by rfl) T.z_len (by decide +kernel) (pa_cons (pv 5) pa_nil)))) pss_nil)
      (pss_cons (ps_setLc (i := 14) (own := [("index", 16)]) (g := gName 16) rfl sc_law.nd rfl rfl (sw_true rfl rfl rfl (by decide +kernel)) (pi_range2 (by rfl) T.z_range (pa_cons (pv 12) (pa_cons (pe_callB (klen (K := K)) (by rfl) T.z_len (by decide +kernel) (pa_cons (pv 3) pa_nil)) pa_nil))) (blkOk_by (own := [("index", 16)]) (N := ["script", "draws", "at", "texts", "ends", "stream", "k", "spoilt", "place", "whole", "cutter", "fed", "told", "size", "due", "broken", "index"]) (sc := defScope s_law) (by decide +kernel)) (fun _ _ _ _ _ => pg_name (i := 16) sc_law.nd rfl (Or.inl rfl)) (fun _ _ _ _ _ => pts_one (pt_cmpR op_le (pe_ix (kixl (K := K)) (pv 4) (pv 16) (fun _ _ => rfl)) (pe_op op_add (pv 11) (pv 13)) (nomark _))) (fun _ _ _ _ _ => (pe_ix (kixl (K := K)) (pv 3) (pv 16) (fun _ _ => rfl))))
      (pss_cons (ps_if (pt_not (pt_val (pe_c c__law_fed hr (by decide) (by rfl) (pa_cons (pv 10) (pa_cons (pe_slice sl_str (pv 5) (po_some (pv 11)) (po_some (pe_op op_add (pv 11) (pv 13)))) (pa_cons (pv 14) pa_nil)))))) (pss_one (ps_ret pe_bl)) pss_nil)
      (pss_cons (ps_set (i := 12) sc_law.nd rfl (Or.inl rfl) (pe_op op_add (pv 12) (pe_callB (klen (K := K)) (by rfl) T.z_len (by decide +kernel) (pa_cons (pv 14) pa_nil))))
      (pss_cons (ps_set (i := 11) sc_law.nd rfl (Or.inr rfl) (pe_callB (call_min2 rfl) (by rfl) T.z_min (by decide +kernel) (pa_cons (pe_callB call_len_str (by rfl) T.z_len (by decide +kernel) (pa_cons (pv 5) pa_nil)) (pa_cons (pe_op op_add (pv 11) (pv 13)) pa_nil))))
      (pss_cons (ps_set (i := 15) sc_law.nd rfl (Or.inl rfl) (pe_cmpR op_lt (pv 8) (pv 11) (nomark _)))
      (pss_cons (ps_if (pt_not (pt_val (pe_c c__law_truth hr (by decide) (by rfl) (pa_cons (pe_mt0 m_Cutter__broken hr (by decide) (pv 10)) (pa_cons (pv 15) pa_nil))))) (pss_one (ps_ret pe_bl)) pss_nil)
      (pss_one (ps_if (PW.pt (pw_and (pt_val (pv 15)) (pw_and1 (PW.pt (pw_or (pt_cmpR op_ne (pe_mt0 m_Cutter__waiting hr (by decide) (pv 10)) pe_int (nomark _)) (pw_or1 (pt_not (pt_val (pe_c c__law_fed hr (by decide) (by rfl) (pa_cons (pv 10) (pa_cons pe_str (pa_cons (pe_lst pa_nil) pa_nil)))))))))))) (pss_one (ps_ret pe_bl)) pss_nil)))))))))))
      (pss_one (ps_ret (pe_and (pe_cmpR op_eq (pv 12) (pe_callB (klen (K := K)) (by rfl) T.z_len (by decide +kernel) (pa_cons (pv 3) pa_nil)) (nomark _)) (pe_and (pe_cmpR op_eq (pe_mt0 m_Cutter__waiting hr (by decide) (pv 9)) pe_int (nomark _)) (pe_one (pe_c c__law_fed hr (by decide) (by rfl) (pa_cons (pv 9) (pa_cons pe_str (pa_cons (pe_lst pa_nil) pa_nil)))))))))))))))))))))))), ?_⟩
  walk_at "rds"
  refine ⟨a, ns, rfl, hS, hlen, fun H1 D cs sm hD0 hD hrg hle => ?_⟩
  walk_at "rds"
  intro A nA
  have dr0 : Dr (upd H1 A (.lst [.int 0])) D A := ⟨ne_of_none hD nA, cs, 0, by rw [upd_ne (ne_of_none hD nA)]; exact hD, upd_same, hrg, hle⟩
  generalize upd H1 A (.lst [.int 0]) = G0 at dr0
  walk_at "rds"
  intro L hL
  have dr1 := dr0.new (o := .lst []) hL
  have LA := dr0.freshA hL
  have LD := dr0.freshD hL
  have eL : upd G0 L (.lst []) L = some (.lst (([] : List Str).map V.str)) := upd_same
  generalize upd G0 L (.lst []) = G1 at dr1 eL
  walk_at "rds"
  intro Ee hE
  have dr3 := dr1.new (o := .lst []) hE
  have EA := dr1.freshA hE
  have ED := dr1.freshD hE
  have EL : Ee ≠ L := fun x => by rw [x, eL] at hE; cases hE
  have eL3 := (same_upd (o := .lst []) hE) _ _ eL
  have eE : upd G1 Ee (.lst []) Ee = some (.lst (([] : List Int).map V.int)) := upd_same
  generalize upd G1 Ee (.lst []) = H3 at dr3 eL3 eE
  clear eL dr0 dr1
  walk_at "rds"
  refine ⟨D, A, 7, rfl, dr3, by decide, fun H4 n n0 n1 md4 dr4 => ?_⟩
  obtain ⟨n, rfl⟩ := Int.eq_ofNat_of_zero_le n0
  have eL4 := md4 _ _ LA eL3
  have eE4 := md4 _ _ EA eE
  clear md4 dr3 eL3 eE
  walk_at "rds"
  refine for_it walk_range (Pv := fun i σ H' => ∃ (z : Str) (ts : List Str) (y6 : Option V), σ = [some (.ref a), some (.ref D), some (.ref A), some (.ref L), some (.ref Ee), some (.str z), y6, none, none, none, none, none, none, none, none, none, none] ∧ Dr H' D A ∧ H' L = some (.lst (ts.map V.str)) ∧ ts.length = i ∧ (∀ t ∈ ts, okT t) ∧ H' Ee = some (.lst (((List.range i).map fun k => (stE ts (k + 1) : Int)).map V.int)) ∧ z.cps.toList = stm ts)
    ⟨_, [], none, rfl, dr4, eL4, rfl, (fun _ h => nomatch h), eE4, rfl⟩ (fun _ _ _ _ _ => trivial) (fun i x σ H5 H6 hi hp hy => ?_) (fun σ H5 hp => ?_)
  · obtain ⟨z, ts, y6, rfl, dr, eL, lts, ok, eE, ez⟩ := hp
    obtain ⟨rfl, rfl⟩ := hy
    have hi' : i < 7 := by omega
    walk_at "rds"
    refine ⟨.inl ⟨rfl, _, sq eL⟩, ?_⟩
    walk_at "rds"
    refine ⟨D, A, 59, rfl, dr, by decide, by decide, fun H7 w' lw pw md7 dr7 => ?_⟩
    have eL7 := md7 _ _ LA eL
    have eE7 := md7 _ _ EA eE
    walk_at "rds"
    refine ⟨D, A, 94, rfl, dr7, by decide, fun H8 m m0 m1 md8 dr8 => ?_⟩
    have eL8 := md8 _ _ LA eL7
    have eE8 := md8 _ _ EA eE7
    clear md7 md8 eL7 eE7 dr7 eL eE dr
    walk_at "rds"
    intro c pc
    have lc1 : (⟨#[c]⟩ : Str).length = 1 := rfl
    have lz2 : (w' ++ ⟨#[c]⟩).length = w'.length + 1 := by rw [len_app2, lc1]
    have okz : okT (w' ++ ⟨#[c]⟩) := ⟨by omega, by omega, by rw [isPr_app, pw]; show (true && [c].all prC) = true; rw [List.all_cons, pc]; rfl⟩
    walk_at "rds"
    generalize w' ++ (⟨#[c]⟩ : Str) = t at okz lz2 ⊢
    refine ⟨L, _, _, rfl, rfl, eL8, by rw [List.length_map]; exact sz1000' (by omega), ?_⟩
    have eL9 : upd H8 L (.lst (ts.map V.str ++ [V.str t])) L = some (.lst ((ts ++ [t]).map V.str)) := by rw [upd_same, List.map_append]; rfl
    have eE9 : upd H8 L (.lst (ts.map V.str ++ [V.str t])) Ee = some (.lst (((List.range i).map fun k => (stE ts (k + 1) : Int)).map V.int)) := by rw [upd_ne EL]; exact eE8
    have dr9 := dr8.put (p := L) (o := .lst (ts.map V.str ++ [V.str t])) LD LA
    generalize upd H8 L (.lst (ts.map V.str ++ [V.str t])) = H9 at eL9 eE9 dr9
    clear eL8 eE8 dr8
    have gt : ((ts ++ [t]).map V.str)[i]? = some (.str t) := by rw [List.getElem?_map, List.getElem?_append_right (by omega), lts, Nat.sub_self]; rfl
    have lg : ((t.length : Int)).natAbs.log2 < 1920 := by
      by_cases h0 : ((t.length : Int)).natAbs = 0
      · rw [h0]; decide
      · exact (Nat.log2_lt h0).mpr (Nat.lt_of_lt_of_le (show _ < 2 ^ 20 by omega) (Nat.pow_le_pow_right (by decide) (by decide)))
    have tl : (Str.ofString (toString (t.length : Int))).length ≤ 8 := by
      have := int_text_length_le10 (a := (t.length : Int)) (k := 7) (by decide) (by omega)
      rw [PySem.ofString_length]; exact this
    have e3 : (Str.ofString ":").length = 1 := rfl
    have e4 : (Str.ofString ",").length = 1 := rfl
    have lz : z.length ≤ 94 * 8 := by
      have := congrArg List.length ez
      rw [len_tl] at this
      have h2 := stm_len ok
      omega
    have frt : (Str.ofString (toString (t.length : Int)) ++ Str.ofString ":" ++ t ++ Str.ofString ",").cps.toList = frm t.cps.toList := str_frm
    walk_at "rds"
    refine ⟨L, _, (i : Int), _, rfl, congrArg V.int (by omega), sq eL9, atI_nat gt, ?_⟩
    walk_at "rds"
    refine ⟨lg, ?_⟩
    walk_at "rds"
    refine ⟨by simp only [len_app2]; omega, ?_⟩
    walk_at "rds"
    refine ⟨L, _, (i : Int), _, rfl, congrArg V.int (by omega), sq eL9, atI_nat gt, ?_⟩
    refine ⟨_, _, rfl, rfl, by simp only [len_app2]; omega, ?_⟩
    walk_at "rds"
    refine ⟨by simp only [len_app2]; omega, ?_⟩
    rw [show z ++ Str.ofString (toString (t.length : Int)) ++ Str.ofString ":" ++ t ++ Str.ofString "," = z ++ (Str.ofString (toString (t.length : Int)) ++ Str.ofString ":" ++ t ++ Str.ofString ",") by simp only [Str.append_assoc]]
    have lfr : (Str.ofString (toString (t.length : Int)) ++ Str.ofString ":" ++ t ++ Str.ofString ",").length = (frm t.cps.toList).length := by rw [← len_tl, frt]
    generalize Str.ofString (toString (t.length : Int)) ++ Str.ofString ":" ++ t ++ Str.ofString "," = fs at frt lfr ⊢
    have flb := frm_le okz
    have esz : (z ++ fs).cps.toList = stm (ts ++ [t]) := by rw [app_tl, ez, frt, stm_app, stm_one]
    have szl : (z ++ fs).length = z.length + (frm t.cps.toList).length := by rw [len_app2, lfr]
    have eln : (((z ++ fs).length : Nat) : Int) = (stE (ts ++ [t]) (i + 1) : Int) := by
      unfold stE
      rw [List.take_of_length_le (by rw [List.length_append, lts]; exact Nat.le_refl _), ← esz, len_tl]
    walk_at "rds"
    refine ⟨.inl ⟨rfl, _, sq eE9⟩, ?_⟩
    walk_at "rds"
    refine ⟨Ee, _, _, rfl, rfl, eE9, by rw [List.length_map, List.length_map, List.length_range]; exact sz1000' (by omega), ?_⟩
    rw [eln]
    refine ⟨_, ts ++ [t], _, rfl, dr9.put (p := Ee) ED EA, ?_, by rw [List.length_append, lts]; rfl, fun x hx => ?_, ?_, esz⟩
    · rw [upd_ne EL.symm]; exact eL9
    · rcases List.mem_append.mp hx with hx | hx
      · exact ok x hx
      · rw [List.mem_singleton.mp hx]; exact okz
    · rw [upd_same, List.range_succ, List.map_append, List.map_append]
      have : (List.range i).map (fun k => (stE (ts ++ [t]) (k + 1) : Int)) = (List.range i).map (fun k => (stE ts (k + 1) : Int)) := List.map_congr_left fun k hk => by
        have := List.mem_range.mp hk
        unfold stE
        rw [List.take_append_of_le_length (by omega)]
      rw [this]; rfl
  · obtain ⟨z, ts, y6, rfl, dr, eL, lts, ok, eE, ez⟩ := hp
    walk_at "rds"
    refine ⟨D, A, rfl, dr, fun H6 sp w' pl md6 dr6 esp lw hsp => ?_⟩
    have lz := stm_len ok
    rw [← lts] at eE
    have l7 : ts.length ≤ 7 := by omega
    have lzz : z.length = (stm ts).length := by rw [← len_tl, ez]
    walk_at "rds"
    have up : ∀ b o, H5 b = some o → b ≠ A → H6 b = some o := fun b o e n => md6 _ _ n e
    have eL6 := up _ _ eL LA
    have eE6 := up _ _ eE EA
    have gi : ([V.str w', V.int pl] : List V)[1]? = some (.int pl) := rfl
    refine ⟨fun σ' H' => ∃ (y : Str) (pv : Int), σ' = [some (.ref a), some (.ref D), some (.ref A), some (.ref L), some (.ref Ee), some (.str y), y6, some (.ref sp), some (.int pv), none, none, none, none, none, none, none, none] ∧ Dr H' D A ∧ H' L = some (.lst (ts.map V.str)) ∧ H' Ee = some (.lst (((List.range ts.length).map fun k => (stE ts (k + 1) : Int)).map V.int)) ∧ H' sp = some (.tup [.str w', .int pl]) ∧ y.length ≤ 2000 ∧ (stm ts).length ≤ y.length ∧ decide (0 ≤ pl) = decide (pv < (y.length : Int)) ∧ ((Cs.len []).run y.cps.toList).1.held = 0 ∧
        ∀ f j : Nat, j ≤ ts.length → stE ts j ≤ f → (j < ts.length → f < stE ts (j + 1)) → f ≤ y.length → ∃ s, (Cs.len []).run (y.cps.toList.take f) = (s, (ts.take j).map fun z => z.cps.toList) ∧ s.isBad = decide (pv < (f : Int)), ?_, ?_⟩
    · walk_at "rds"
      refine ⟨sp, _, 1, _, rfl, rfl, SqT.of esp, atI_nat (j := 1) gi, ?_⟩
      walk_at "rds"
      have p9 : (10 : Int) ^ Int.toNat 9 = 1000000000 := by decide +kernel
      have en : stE ts ts.length = (stm ts).length := by unfold stE; rw [List.take_length]
      rcases hsp with ⟨we, rfl⟩ | ⟨n', rfl, hw⟩
      · refine ifF rfl ?_
        refine ⟨z, (z.length : Int) + 10 ^ Int.toNat 9, rfl, dr6, eL6, eE6, esp, by omega, by omega, ?_, ?_, fun f j h1 h2 h3 h4 => ?_⟩
        · rw [p9, decide_eq_false (show ¬ (z.length : Int) + 1000000000 < (z.length : Int) by omega)]; rfl
        · rw [ez, run_stm ts ok]; rfl
        · obtain ⟨s, r1, r2⟩ := fine_take ok h1 h2 h3
          exact ⟨s, by rw [ez]; exact r1, by rw [r2, p9, decide_eq_false (by omega)]⟩
      · refine ifT (decide_eq_true (by omega)) ?_
        walk_at "rds"
        refine ⟨sp, _, 1, _, rfl, rfl, SqT.of esp, atI_nat (j := 1) gi, ?_⟩
        walk_at "rds"
        refine ⟨sp, _, 0, _, rfl, rfl, SqT.of esp, atI_nat (j := 0) (show ([V.str w', V.int (n' : Int)] : List V)[0]? = some (.str w') from rfl), ?_⟩
        refine ⟨_, _, rfl, rfl, by omega, ?_⟩
        walk_at "rds"
        refine ⟨D, A, 60, rfl, dr6, by decide, by decide, fun H7 u lu pu md7 dr7 => ?_⟩
        walk_at "rds"
        refine ⟨by simp only [len_app2]; omega, ?_⟩
        have spA : sp ≠ A := fun z => by
          obtain ⟨_, _, _, _, eA7, _⟩ := id dr6
          rw [z, eA7] at esp; cases esp
        have yl : (z ++ w' ++ u).cps.toList = stm ts ++ (w'.cps.toList ++ u.cps.toList) := by rw [app_tl, app_tl, ez, List.append_assoc]
        have hw2 := spo_app hw u.cps.toList
        have hlw : n' < w'.length := by
          obtain ⟨_, _, hc, _⟩ := hw
          rw [← len_tl]; exact (List.getElem?_eq_some_iff.mp hc).1
        refine ⟨z ++ w' ++ u, (z.length : Int) + (n' : Int), rfl, dr7, md7 _ _ LA eL6, md7 _ _ EA eE6, md7 _ _ spA esp, by simp only [len_app2]; omega, by simp only [len_app2]; omega, ?_, ?_, fun f j h1 h2 h3 h4 => ?_⟩
        · rw [decide_eq_true (show (0 : Int) ≤ (n' : Int) by omega), decide_eq_true (by simp only [len_app2]; omega)]
        · obtain ⟨s, r1, r2⟩ := spo_take hw2 (w'.cps.toList ++ u.cps.toList).length
          rw [List.take_length] at r1
          rw [yl, run_app, run_stm ts ok]
          rw [decide_eq_true (by rw [List.length_append, len_tl]; omega)] at r2
          show ((Cs.len []).run _).1.held = 0
          rw [r1]
          cases s with
          | bad => rfl
          | len _ => cases r2
          | txt _ _ _ => cases r2
        · obtain ⟨s, r1, r2⟩ := spoilt_take ok hw2 h1 h2 h3
          refine ⟨s, by rw [yl]; exact r1, ?_⟩
          rw [r2]; congr 1; exact propext ⟨fun _ => by omega, fun _ => by omega⟩
    rintro σ' N1 ⟨y, pv, rfl, dr1, eL1, eE1, esp1, ly, lsy, epv, hheld, key⟩
    walk_at "rds"
    clear esp eL6 eE6 dr6 up hsp md6 eL eE dr
    have mk : ∀ (G : Hp) (p dx : Addr), G p = none → G dx = none → p ≠ dx → ∃ G1, upd (upd G dx (.own p)) p (.ins C_Cutter dx []) = G1 ∧ Same G G1 ∧ G1 p = some (.ins C_Cutter dx []) := fun G p dx hp hdx n => by
      have hp1 : upd G dx (.own p) p = none := by rw [upd_ne n]; exact hp
      exact ⟨_, rfl, (same_upd (o := .own p) hdx).trans (same_upd (o := .ins C_Cutter dx []) hp1), upd_same⟩
    have en : stE ts ts.length = (stm ts).length := by unfold stE; rw [List.take_length]
    obtain ⟨sf, rf1, rf2⟩ := key y.length ts.length (Nat.le_refl _) (by omega) (fun z => absurd z (by omega)) (Nat.le_refl _)
    rw [List.take_of_length_le (by rw [len_tl]; exact Nat.le_refl _), List.take_length] at rf1
    have hh0 : sf.held = 0 := by rw [rf1] at hheld; exact hheld
    intro p1 dx1 hp1 hdx1 np1
    obtain ⟨G1, eG1, sG1, eP1⟩ := mk _ p1 dx1 hp1 hdx1 np1.symm
    rw [eG1]
    refine ⟨p1, dx1, rfl, eP1, fun G2 P1 b2 hP1 cu1 => ?_⟩
    refine ⟨rfl, ?_⟩
    have s2 : Same N1 G2 := fun x o e => b2 _ _ (by simp only [List.mem_cons, List.not_mem_nil, or_false]; rintro rfl; rw [hp1] at e; cases e) (sG1 _ _ e)
    have dr2 := dr1.same s2
    have eL2 := s2 _ _ eL1
    have eE2 := s2 _ _ eE1
    have esp2 := s2 _ _ esp1
    have old1 : ∀ x o, N1 x = some o → x ≠ p1 ∧ x ≠ P1 := fun x o e => ⟨fun z => (by rw [z, hp1] at e; cases e), fun z => by rw [← z, sG1 _ _ e] at hP1; cases hP1⟩
    clear b2 eG1 eP1 sG1
    walk_at "rds"
    refine ⟨p1, P1, L, _, y, ts, rfl, cu1, by omega, eL2, (old1 _ _ eL1).1, (old1 _ _ eL1).2, by omega, by rw [rf1], fun G3 W b3 hW cu3 => ?_⟩
    rw [rf1] at cu3
    have k3 : ∀ x o, N1 x = some o → G3 x = some o := fun x o e => b3 _ _ (by have := old1 _ _ e; simpa using this) (s2 _ _ e)
    have dr3 : Dr G3 D A := by
      obtain ⟨ne, cs7, n7, eD7, eA7, h7⟩ := dr1
      exact ⟨ne, cs7, n7, k3 _ _ eD7, k3 _ _ eA7, h7⟩
    have eL3 := k3 _ _ eL1
    have eE3 := k3 _ _ eE1
    have esp3 := k3 _ _ esp1
    have sepW : ∀ x ∈ [L, Ee, D, A], x ≠ p1 ∧ x ≠ W := by
      have h : ∀ x o, N1 x = some o → x ≠ p1 ∧ x ≠ W := fun x o e => ⟨(old1 _ _ e).1, fun z => by
        rcases hW with hW | hW
        · exact (old1 _ _ e).2 (z.trans hW)
        · rw [← z, s2 _ _ e] at hW; cases hW⟩
      obtain ⟨_, cs7, _, eD7, eA7, _⟩ := id dr1
      intro x hx
      simp only [List.mem_cons, List.not_mem_nil, or_false] at hx
      rcases hx with rfl | rfl | rfl | rfl
      · exact h _ _ eL1
      · exact h _ _ eE1
      · exact h _ _ eD7
      · exact h _ _ eA7
    obtain ⟨dxa, _, _, _, _, _, ka, _⟩ := id cu3.at_
    clear dr1 dr2 eL1 eL2 eE1 eE2 esp1 esp2 s2 b3 hW
    walk_at "rds"
    refine ⟨p1, dxa, _, rfl, ka, rfl, ?_⟩
    walk_at "rds"
    refine ⟨p1, W, _, rfl, cu3, ?_⟩
    walk_at "rds"
    refine ⟨sp, _, 1, _, rfl, rfl, SqT.of esp3, atI_nat (j := 1) gi, ?_⟩
    walk_at "rds"
    refine ⟨_, _, rfl, ?_⟩
    walk_at "rds"
    refine ifF (by rw [decide_eq_true (show V.bl sf.isBad = V.bl (decide (0 ≤ pl)) from by rw [rf2, epv])]; rfl) ?_
    walk_at "rds"
    intro p2 dx2 hp2 hdx2 np2
    obtain ⟨G4, eG4, sG4, eP4⟩ := mk _ p2 dx2 hp2 hdx2 np2.symm
    rw [eG4]
    refine ⟨p2, dx2, rfl, eP4, fun G5 P2 b5 hP2 cu5 => ?_⟩
    refine ⟨rfl, ?_⟩
    have s5 : Same G3 G5 := fun x o e => b5 _ _ (by simp only [List.mem_cons, List.not_mem_nil, or_false]; rintro rfl; rw [hp2] at e; cases e) (sG4 _ _ e)
    have old2 : ∀ x o, G3 x = some o → x ≠ p2 ∧ x ≠ P2 := fun x o e => ⟨fun z => (by rw [z, hp2] at e; cases e), fun z => by rw [← z, sG4 _ _ e] at hP2; cases hP2⟩
    obtain ⟨_, _, _, _, _, _, kb, kc, _⟩ := id cu3.at_
    have o1 := old2 _ _ kb
    have o2 := old2 _ _ kc
    have sep1 : ∀ x ∈ [L, Ee, D, A, p1, W], x ≠ p2 ∧ x ≠ P2 := by
      obtain ⟨_, cs7, _, eD7, eA7, _⟩ := id dr3
      intro x hx
      simp only [List.mem_cons, List.not_mem_nil, or_false] at hx
      rcases hx with rfl | rfl | rfl | rfl | rfl | rfl
      · exact old2 _ _ eL3
      · exact old2 _ _ eE3
      · exact old2 _ _ eD7
      · exact old2 _ _ eA7
      · exact o1
      · exact o2
    have dr5 := dr3.same s5
    have eL5 := s5 _ _ eL3
    have eE5 := s5 _ _ eE3
    have cu35 := cu3.on (S := []) (Same.but s5) (by simp) (by simp)
    have cu5' : CuAt C_Cutter G5 p2 P2 ((Cs.len []).run (y.cps.toList.take 0)).1 := cu5
    clear b5 eG4 eP4 sG4 s5 dr3 eL3 eE3 cu3 esp3
    have lL : (ts.map V.str).length = ts.length := List.length_map _
    have st0 : 0 < ts.length → 0 < stE ts 1 := fun h => by
      have := stE_mono ok (i := 0) (j := 1) (by omega) h
      have h0 : stE ts 0 = 0 := rfl
      omega
    walk_at "rds"
    refine for_it walk_range (Pv := fun i σ H' => ∃ (fed j : Nat) (Q2 : Addr) (y6 y13 y14 y15 y16 : Option V), σ = [some (.ref a), some (.ref D), some (.ref A), some (.ref L), some (.ref Ee), some (.str y), y6, some (.ref sp), some (.int pv), some (.ref p1), some (.ref p2), some (.int fed), some (.int j), y13, y14, y15, y16] ∧ Dr H' D A ∧ H' L = some (.lst (ts.map V.str)) ∧ H' Ee = some (.lst (((List.range ts.length).map fun k => (stE ts (k + 1) : Int)).map V.int)) ∧ fed ≤ y.length ∧ j ≤ ts.length ∧ stE ts j ≤ fed ∧ (j < ts.length → fed < stE ts (j + 1)) ∧
        CuAt C_Cutter H' p1 W sf ∧ CuAt C_Cutter H' p2 Q2 ((Cs.len []).run (y.cps.toList.take fed)).1 ∧ (∀ x ∈ [L, Ee, D, A, p1, W], x ≠ p2 ∧ x ≠ Q2) ∧ (i = 16 → fed = y.length))
      ⟨0, 0, P2, _, none, none, none, none, rfl, dr5, eL5, eE5, Nat.zero_le _, Nat.zero_le _, Nat.le_of_eq rfl, st0, cu35, cu5', sep1, fun h => absurd h (by decide)⟩ (fun _ _ _ _ _ => trivial) (fun i x σ N5 N6 hi hp hy => ?_) (fun σ N5 hp => ?_)
    · obtain ⟨fed, j, Q2, y6', y13, y14, y15, y16, rfl, dr, eL, eE, hf, hj, h2, h3, cuW, cuC, sep, _⟩ := hp
      obtain ⟨rfl, rfl⟩ := hy
      clear dr5 eL5 eE5 cu35 cu5 cu5' sep1
      walk_at "rds"
      refine ⟨D, A, 24, rfl, dr, by decide, fun M1 m m0 m1 md1 dr1 => ?_⟩
      walk_at "rds"
      have eL2 := md1 _ _ LA eL
      have eE2 := md1 _ _ EA eE
      have hDA : (∃ o, N6 A = some o) := by
        obtain ⟨_, _, _, _, eA7, _⟩ := id dr
        exact ⟨_, eA7⟩
      have hp2A := sep A (by simp)
      have cuC := cuC.on (S := [A]) (fun b o n' e => md1 b o (by simpa using n') e) (by simpa using hp2A.1.symm) (by simpa using hp2A.2.symm)
      have hWA := sepW A (by simp)
      have cuW := cuW.on (S := [A]) (fun b o n' e => md1 b o (by simpa using n') e) (by simpa using hWA.1.symm) (by simpa using hWA.2.symm)
      clear dr eL eE md1
      refine ⟨fun σ' H' => ∃ sz : Nat, σ' = [some (.ref a), some (.ref D), some (.ref A), some (.ref L), some (.ref Ee), some (.str y), some (.int (0 + (i : Int))), some (.ref sp), some (.int pv), some (.ref p1), some (.ref p2), some (.int fed), some (.int j), some (.int sz), y14, y15, y16] ∧ H' = M1 ∧ sz ≤ 1000000 ∧ (i = 15 → sz = y.length), ?_, ?_⟩
      · walk_at "rds"
        by_cases g15 : i = 15
        · refine ifT (decide_eq_true (congrArg V.int (by omega))) ?_
          walk_at "rds"
          exact ⟨y.length, rfl, rfl, by omega, fun _ => rfl⟩
        · refine ifF (decide_eq_false (fun h => g15 (by injection h with h; omega))) ?_
          obtain ⟨sz, rfl⟩ := Int.eq_ofNat_of_zero_le m0
          exact ⟨sz, rfl, rfl, by omega, fun h => absurd h g15⟩
      rintro σ' Mz ⟨sz, rfl, rfl, hsz, h15⟩
      -- how many texts end within the next piece
      obtain ⟨j', a1, a2, a3, a4⟩ := stE_cnt (ts := ts) (min (stm ts).length (fed + sz)) (Nat.min_le_left _ _)
      have b3 : j' < ts.length → fed + sz < stE ts (j' + 1) := fun h => by
        have := a3 h
        have := stE_le ok (i := j' + 1) (j := ts.length) (by omega) (Nat.le_refl _)
        omega
      have b2 : stE ts j' ≤ fed + sz := by omega
      have b1 : stE ts j' ≤ (stm ts).length := by omega
      have jj : j ≤ j' := by
        refine Classical.byContradiction fun g => ?_
        have := b3 (by omega)
        have := stE_le ok (i := j' + 1) (j := j) (by omega) hj
        omega
      obtain ⟨s1, r1, r2⟩ := key fed j hj h2 h3 hf
      obtain ⟨s2, v1, v2⟩ := key (min y.length (fed + sz)) j' a1 (by omega) (fun h => by have := b3 h; omega) (Nat.min_le_left _ _)
      walk_at "rds"
      refine ⟨L, _, rfl, .inl (sq eL2), ?_⟩
      rw [lL]
      walk_at "rds"
      refine ⟨(j : Int), (ts.length : Int), rfl, ⟨by omega, by omega, by omega, by omega⟩, ?_⟩
      intro Dl hDl
      refine lc_it (walk_range (lo := (j : Int)) (n := ((ts.length : Int) - (j : Int)).toNat)) (Pv := fun i' H' => Same Mz H' ∧ H' Dl = some (.lst (((ts.take (min (j + i') j')).drop j).map V.str))) ⟨same_upd hDl, by rw [upd_same, Nat.add_zero, Nat.min_eq_left jj, List.drop_eq_nil_of_le (by rw [List.length_take]; omega)]; rfl⟩ (fun _ _ _ _ => trivial) (fun i' x H6 H7 hi' hp2 hy => ?_) (fun H6 hp2 => ?_)
      · obtain ⟨s6, hD6⟩ := hp2
        obtain ⟨rfl, rfl⟩ := hy
        have hji : j + i' < ts.length := by omega
        have eE6 := s6 _ _ eE2
        have eL6 := s6 _ _ eL2
        have ge : (((List.range ts.length).map fun k => (stE ts (k + 1) : Int)).map V.int)[j + i']? = some (.int (stE ts (j + i' + 1))) := by
          rw [List.getElem?_map, List.getElem?_map, List.getElem?_range hji]; rfl
        have gt : (ts.map V.str)[j + i']? = some (.str ts[j + i']) := by rw [List.getElem?_map, List.getElem?_eq_getElem hji]; rfl
        refine ⟨rfl, ?_⟩
        walk_at "rds"
        refine ⟨Ee, _, ((j + i' : Nat) : Int), _, rfl, congrArg V.int (by omega), sq eE6, atI_nat ge, ?_⟩
        walk_at "rds"
        by_cases gj : j + i' < j'
        · have := stE_le ok (i := j + i' + 1) (j := j') (by omega) a1
          refine ifT (decide_eq_true (by omega)) ?_
          walk_at "rds"
          refine ⟨L, _, ((j + i' : Nat) : Int), _, rfl, congrArg V.int (by omega), sq eL6, atI_nat gt, ?_⟩
          refine ⟨_, hD6, by rw [List.length_map, List.length_drop, List.length_take]; exact sz1000' (by omega), same_mut s6 hDl, ?_⟩
          rw [upd_same, show min (j + (i' + 1)) j' = (j + i') + 1 by omega, show min (j + i') j' = j + i' by omega, List.take_add_one, List.getElem?_eq_getElem hji, List.drop_append_of_le_length (by rw [List.length_take]; omega), List.map_append]
          rfl
        · have := stE_le ok (i := j' + 1) (j := j + i' + 1) (by omega) (by omega)
          have := b3 (by omega)
          refine ifF (decide_eq_false (by omega)) ?_
          exact ⟨s6, by rw [hD6, show min (j + (i' + 1)) j' = min (j + i') j' by omega]⟩
      obtain ⟨s6, hD6⟩ := hp2
      rw [show min (j + ((ts.length : Int) - (j : Int)).toNat) j' = j' by omega] at hD6
      have eL6 := s6 _ _ eL2
      have eE6 := s6 _ _ eE2
      have dr6 := dr1.same s6
      have cuW6 := cuW.on (Same.but (S := []) s6) (by simp) (by simp)
      have cuC6 := cuC.on (Same.but (S := []) s6) (by simp) (by simp)
      have dlne : Dl ≠ p2 ∧ Dl ≠ Q2 := by
        obtain ⟨_, _, _, _, _, _, k1, k2, _⟩ := id cuC.at_
        exact ⟨fun z => (by rw [z, k1] at hDl; cases hDl), fun z => (by rw [z, k2] at hDl; cases hDl)⟩
      have ct : (cutS y (some (fed : Int)) (some ((fed : Int) + (sz : Int)))).cps.toList = (y.cps.toList.drop fed).take sz := by
        have := cut_mid (z := y) (i := fed) (e := fed + sz) hf
        rw [show fed + sz - fed = sz by omega] at this
        exact this
      have ltc := cutS_length y (some (fed : Int)) (some ((fed : Int) + (sz : Int)))
      walk_at "rds"
      generalize cutS y (some (fed : Int)) (some ((fed : Int) + (sz : Int))) = ch at ct ltc ⊢
      have fd2 : y.cps.toList.take (min y.length (fed + sz)) = y.cps.toList.take fed ++ ch.cps.toList := by
        rw [ct, ← List.take_add]
        by_cases g : fed + sz ≤ y.length
        · rw [Nat.min_eq_right g]
        · rw [Nat.min_eq_left (by omega), List.take_of_length_le (by rw [len_tl]; omega), List.take_of_length_le (by rw [len_tl]; omega)]
      have w1 := v1
      rw [fd2, run_app, r1] at w1
      have w1b : (ts.take j).map (fun z : Str => z.cps.toList) ++ (s1.run ch.cps.toList).2 = (ts.take j').map fun z => z.cps.toList := congrArg Prod.snd w1
      have edue : ((ts.take j').drop j).map (fun z : Str => z.cps.toList) = (s1.run ch.cps.toList).2 := by
        have e : ts.take j' = ts.take j ++ (ts.take j').drop j := by
          conv => lhs; rw [← List.take_append_drop j (ts.take j'), List.take_take, Nat.min_eq_left jj]
        rw [e, List.map_append] at w1b
        exact (List.append_cancel_left w1b).symm
      refine ⟨p2, Q2, Dl, _, ch, (ts.take j').drop j, rfl, cuC6, by omega, hD6, dlne.1, dlne.2, by rw [List.length_drop, List.length_take]; omega, by rw [r1]; exact edue, fun M3 Q2' b7 hQ cu7 => ?_⟩
      have cu7 : CuAt C_Cutter M3 p2 Q2' s2 := by
        rw [r1] at cu7
        rw [show s2 = (s1.run ch.cps.toList).1 from (congrArg Prod.fst w1).symm]
        exact cu7
      have ke : ∀ x ∈ [L, Ee, D, A, p1, W], ∀ o, H6 x = some o → M3 x = some o := fun x hx o e => b7 _ _ (by have := sep x hx; simpa using this) e
      have old6 : ∀ x ∈ [L, Ee, D, A, p1, W], ∃ o, H6 x = some o := by
        obtain ⟨_, cs7, _, eD7, eA7, _⟩ := id dr6
        obtain ⟨_, _, _, _, _, _, k1, k2, _⟩ := id cuW6.at_
        intro x hx
        simp only [List.mem_cons, List.not_mem_nil, or_false] at hx
        rcases hx with rfl | rfl | rfl | rfl | rfl | rfl
        · exact ⟨_, eL6⟩
        · exact ⟨_, eE6⟩
        · exact ⟨_, eD7⟩
        · exact ⟨_, eA7⟩
        · exact ⟨_, k1⟩
        · exact ⟨_, k2⟩
      have sepN : ∀ x ∈ [L, Ee, D, A, p1, W], x ≠ p2 ∧ x ≠ Q2' := fun x hx => ⟨(sep x hx).1, fun z => by
        rcases hQ with hQ | hQ
        · exact (sep x hx).2 (z.trans hQ)
        · obtain ⟨o, eo⟩ := old6 x hx
          rw [z, hQ] at eo; cases eo⟩
      have eL7 := ke L (by simp) _ eL6
      have eE7 := ke Ee (by simp) _ eE6
      have hD7 := b7 Dl _ (by simp [dlne.1, dlne.2]) hD6
      have dr7 : Dr M3 D A := by
        obtain ⟨ne, cs7, n7, eD7, eA7, h7⟩ := dr6
        exact ⟨ne, cs7, n7, ke D (by simp) _ eD7, ke A (by simp) _ eA7, h7⟩
      have cuW7 : CuAt C_Cutter M3 p1 W sf := by
        refine cuW6.on b7 ?_ ?_
        · have := sep p1 (by simp); simpa using this
        · have := sep W (by simp); simpa using this
      have em : (if ((fed : Int) + (sz : Int)) < (y.length : Int) then ((fed : Int) + (sz : Int)) else (y.length : Int)) = ((min y.length (fed + sz) : Nat) : Int) := by split <;> omega
      have etold : (j : Int) + (((((ts.take j').drop j).map V.str).length : Nat) : Int) = (j' : Int) := by rw [List.length_map, List.length_drop, List.length_take]; omega
      have l16 : i + 1 = 16 → min y.length (fed + sz) = y.length := fun h => by have := h15 (by omega); omega
      have c2 : stE ts j' ≤ min y.length (fed + sz) := by omega
      have c3 : j' < ts.length → min y.length (fed + sz) < stE ts (j' + 1) := fun h => by have := b3 h; omega
      generalize hfd : min y.length (fed + sz) = fd at *
      have fdl : fd ≤ y.length := by omega
      clear s6 hD6 hDl eL6 eE6 dr6 cuW6 cuC6 old6 ke b7 hQ w1 w1b edue
      walk_at "rds"
      refine ⟨Dl, _, rfl, .inl (sq hD7), ?_⟩
      walk_at "rds"
      rw [show (fun i j => V.int (i + j)) (j : Int) (((((ts.take j').drop j).map V.str).length : Nat) : Int) = V.int (j' : Int) from congrArg V.int etold]
      delta tNil
      refine ⟨_, _, rfl, ?_⟩
      rw [em]
      obtain ⟨dxc, _, _, _, _, _, kc', _⟩ := id cu7.at_
      have N : ∀ (M : Hp) (Q' : Addr), Dr M D A → M L = some (.lst (ts.map V.str)) → M Ee = some (.lst (((List.range ts.length).map fun k => (stE ts (k + 1) : Int)).map V.int)) → CuAt C_Cutter M p1 W sf → CuAt C_Cutter M p2 Q' s2 → (∀ x ∈ [L, Ee, D, A, p1, W], x ≠ p2 ∧ x ≠ Q') →
          ∃ (fed j : Nat) (Q2 : Addr) (y6 y13 y14 y15 y16' : Option V), [some (V.ref a), some (.ref D), some (.ref A), some (.ref L), some (.ref Ee), some (.str y), some (.int (0 + (i : Int))), some (.ref sp), some (.int pv), some (.ref p1), some (.ref p2), some (.int fd), some (.int j'), some (.int sz), some (.ref Dl), some (.bl (decide (pv < (fd : Int)))), y16] = [some (.ref a), some (.ref D), some (.ref A), some (.ref L), some (.ref Ee), some (.str y), y6, some (.ref sp), some (.int pv), some (.ref p1), some (.ref p2), some (.int fed), some (.int j), y13, y14, y15, y16'] ∧ Dr M D A ∧ M L = some (.lst (ts.map V.str)) ∧ M Ee = some (.lst (((List.range ts.length).map fun k => (stE ts (k + 1) : Int)).map V.int)) ∧ fed ≤ y.length ∧ j ≤ ts.length ∧ stE ts j ≤ fed ∧ (j < ts.length → fed < stE ts (j + 1)) ∧
            CuAt C_Cutter M p1 W sf ∧ CuAt C_Cutter M p2 Q2 ((Cs.len []).run (y.cps.toList.take fed)).1 ∧ (∀ x ∈ [L, Ee, D, A, p1, W], x ≠ p2 ∧ x ≠ Q2) ∧ (i + 1 = 16 → fed = y.length) := fun M Q' d1 d2 d3 d4 d5 d6 =>
        ⟨fd, j', Q', _, _, _, _, _, rfl, d1, d2, d3, fdl, a1, c2, c3, d4, by rw [v1]; exact d5, d6, l16⟩
      walk_at "rds"
      refine ⟨p2, dxc, _, rfl, kc', rfl, ?_⟩
      walk_at "rds"
      refine ⟨p2, Q2', _, rfl, cu7, ?_⟩
      walk_at "rds"
      refine ⟨_, _, rfl, ?_⟩
      walk_at "rds"
      refine ifF (by rw [decide_eq_true (show V.bl s2.isBad = V.bl (decide (pv < (fd : Int))) from by rw [v2])]; rfl) ?_
      walk_at "rds"
      by_cases gb : pv < (fd : Int)
      · refine ifT (decide_eq_true gb) ?_
        have es : s2 = .bad := by
          rw [decide_eq_true gb] at v2
          cases s2 with
          | bad => rfl
          | len _ => cases v2
          | txt _ _ _ => cases v2
        walk_at "rds"
        refine ⟨p2, dxc, _, rfl, kc', rfl, ?_⟩
        walk_at "rds"
        refine ⟨p2, Q2', _, rfl, cu7, ?_⟩
        subst es
        walk_at "rds"
        intro l hl
        have lne : l ≠ p2 ∧ l ≠ Q2' := by
          obtain ⟨_, _, _, _, _, _, k1, k2, _⟩ := id cu7.at_
          exact ⟨fun z => (by rw [z, k1] at hl; cases hl), fun z => (by rw [z, k2] at hl; cases hl)⟩
        have sl' := same_upd (o := .lst []) hl
        have cu8 := cu7.on (S := []) (Same.but sl') (by simp) (by simp)
        have cuW8 := cuW7.on (S := []) (Same.but sl') (by simp) (by simp)
        have eL8 := sl' _ _ eL7
        have eE8 := sl' _ _ eE7
        have dr8 := dr7.same sl'
        have old8 : ∀ x ∈ [L, Ee, D, A, p1, W], ∃ o, upd M3 l (.lst []) x = some o := by
          obtain ⟨_, cs7, _, eD7, eA7, _⟩ := id dr8
          obtain ⟨_, _, _, _, _, _, k1, k2, _⟩ := id cuW8.at_
          intro x hx
          simp only [List.mem_cons, List.not_mem_nil, or_false] at hx
          rcases hx with rfl | rfl | rfl | rfl | rfl | rfl
          · exact ⟨_, eL8⟩
          · exact ⟨_, eE8⟩
          · exact ⟨_, eD7⟩
          · exact ⟨_, eA7⟩
          · exact ⟨_, k1⟩
          · exact ⟨_, k2⟩
        walk_at "rds"
        refine ⟨p2, Q2', l, _, Str.ofString "1:a,", [], rfl, cu8, by decide +kernel, upd_same, lne.1, lne.2, by decide, by rw [run_bad]; rfl, fun M5 Q3 b9 hQ3 cu9 => ?_⟩
        rw [run_bad] at cu9
        have ke : ∀ x ∈ [L, Ee, D, A, p1, W], ∀ o, upd M3 l (.lst []) x = some o → M5 x = some o := fun x hx o e => b9 _ _ (by have := sepN x hx; simpa using this) e
        have sep9 : ∀ x ∈ [L, Ee, D, A, p1, W], x ≠ p2 ∧ x ≠ Q3 := fun x hx => ⟨(sepN x hx).1, fun z => by
          rcases hQ3 with hQ | hQ
          · exact (sepN x hx).2 (z.trans hQ)
          · obtain ⟨o, eo⟩ := old8 x hx
            rw [z, hQ] at eo; cases eo⟩
        have dr9 : Dr M5 D A := by
          obtain ⟨ne, cs7, n7, eD7, eA7, h7⟩ := dr8
          exact ⟨ne, cs7, n7, ke D (by simp) _ eD7, ke A (by simp) _ eA7, h7⟩
        have cuW9 : CuAt C_Cutter M5 p1 W sf := by
          refine cuW8.on b9 ?_ ?_
          · have := sepN p1 (by simp); simpa using this
          · have := sepN W (by simp); simpa using this
        have fin := N M5 Q3 dr9 (ke L (by simp) _ eL8) (ke Ee (by simp) _ eE8) cuW9 cu9 sep9
        walk_at "rds"
        exact fin
      · refine ifF (decide_eq_false gb) ?_
        exact N _ _ dr7 eL7 eE7 cuW7 cu7 sepN
    · obtain ⟨fed, j, Q2, y6', y13, y14, y15, y16, rfl, dr, eL, eE, hf, hj, h2, h3, cuW, cuC, sep, hend⟩ := hp
      have hend := hend rfl
      have ej : j = ts.length := by
        refine Classical.byContradiction fun g => ?_
        have := h3 (by omega)
        have := stE_le ok (i := j + 1) (j := ts.length) (by omega) (Nat.le_refl _)
        omega
      obtain ⟨dxb, _, _, _, _, _, kd, _⟩ := id cuW.at_
      walk_at "rds"
      refine ⟨L, _, rfl, .inl (sq eL), ?_⟩
      walk_at "rds"
      refine ifT (by rw [lL, ej, decide_eq_true rfl]) ?_
      walk_at "rds"
      refine ⟨p1, dxb, _, rfl, kd, rfl, ?_⟩
      walk_at "rds"
      refine ⟨p1, W, _, rfl, cuW, ?_⟩
      rw [hh0]
      walk_at "rds"
      intro l hl
      have lne : l ≠ p1 ∧ l ≠ W := by
        obtain ⟨_, _, _, _, _, _, k1, k2, _⟩ := id cuW.at_
        exact ⟨fun z => (by rw [z, k1] at hl; cases hl), fun z => (by rw [z, k2] at hl; cases hl)⟩
      have cuW' := cuW.on (S := []) (Same.but (same_upd (o := .lst []) hl)) (by simp) (by simp)
      walk_at "rds"
      refine ⟨p1, W, l, _, Str.ofString "", [], rfl, cuW', by decide +kernel, upd_same, lne.1, lne.2, by decide, ?_, fun N6 W' b6 hW' cu6 => ?_⟩
      · show _ = (sf.run []).2
        rw [run_nil]; rfl
      exact q _
end

theorem fin {C_Cutter : Addr} {P : Program} {w : World} {K : PySem.W.Frag} {mg : Str → Option Value} {fa : Addr} (hfa : mg "law" = some (.ref fa)) (T : Txt K mg C_Cutter) :
    ∃ fd : FuncData, (∀ (s : Shared) (u : Value), BindsTo s fd ⟨[u], []⟩ [("script", u)]) ∧ ∀ base : Heap, K.In base → base.Ns mainGlobals mg → FnOk P w K mg base L2.CX0 13 fa fd ["script"] (spLaw K) := by
  obtain ⟨f, fd, F, hm, b⟩ := T.d_law.ex
  cases hfa.symm.trans hm
  refine ⟨fd, fun s u => ?_, fun base _ _ => ok_law F T⟩
  obtain ⟨oc, od, kV, doc, pm, an, cdv, ct, osl, rfl, l, _⟩ := F.ex
  exact .of_eq rfl

theorem all_mk {K : PySem.W.Frag} {h : Heap} {mg : Str → Option Value} (X : K.In h) (G : h.Ns mainGlobals mg)
    {f_is_printable : Addr} {od_is_printable an_is_printable : Option Addr} {sl_is_printable : Array (Option Value)} {oc_is_printable kV_is_printable dc_is_printable pm_is_printable cd_is_printable ct_is_printable : Value}
    {f_is_decimal : Addr} {od_is_decimal an_is_decimal : Option Addr} {sl_is_decimal : Array (Option Value)} {oc_is_decimal kV_is_decimal dc_is_decimal pm_is_decimal cd_is_decimal ct_is_decimal : Value}
    {f_is_length : Addr} {od_is_length an_is_length : Option Addr} {sl_is_length : Array (Option Value)} {oc_is_length kV_is_length dc_is_length pm_is_length cd_is_length ct_is_length : Value}
    {f__law_draws : Addr} {od__law_draws an__law_draws : Option Addr} {sl__law_draws : Array (Option Value)} {oc__law_draws kV__law_draws dc__law_draws pm__law_draws cd__law_draws ct__law_draws : Value}
    {f__law_next : Addr} {od__law_next an__law_next : Option Addr} {sl__law_next : Array (Option Value)} {oc__law_next kV__law_next dc__law_next pm__law_next cd__law_next ct__law_next : Value}
    {f__law_char : Addr} {od__law_char an__law_char : Option Addr} {sl__law_char : Array (Option Value)} {oc__law_char kV__law_char dc__law_char pm__law_char cd__law_char ct__law_char : Value}
    {f__law_string : Addr} {od__law_string an__law_string : Option Addr} {sl__law_string : Array (Option Value)} {oc__law_string kV__law_string dc__law_string pm__law_string cd__law_string ct__law_string : Value}
    {f__law_truth : Addr} {od__law_truth an__law_truth : Option Addr} {sl__law_truth : Array (Option Value)} {oc__law_truth kV__law_truth dc__law_truth pm__law_truth cd__law_truth ct__law_truth : Value}
    {f__law_spoilt : Addr} {od__law_spoilt an__law_spoilt : Option Addr} {sl__law_spoilt : Array (Option Value)} {oc__law_spoilt kV__law_spoilt dc__law_spoilt pm__law_spoilt cd__law_spoilt ct__law_spoilt : Value}
    {f__law_fed : Addr} {od__law_fed an__law_fed : Option Addr} {sl__law_fed : Array (Option Value)} {oc__law_fed kV__law_fed dc__law_fed pm__law_fed cd__law_fed ct__law_fed : Value}
    {f_law : Addr} {od_law an_law : Option Addr} {sl_law : Array (Option Value)} {oc_law kV_law dc_law pm_law cd_law ct_law : Value}
    {C_Cutter : Addr}
    {f_Cutter____init__ : Addr} {od_Cutter____init__ an_Cutter____init__ : Option Addr} {sl_Cutter____init__ : Array (Option Value)} {oc_Cutter____init__ kV_Cutter____init__ dc_Cutter____init__ pm_Cutter____init__ cd_Cutter____init__ ct_Cutter____init__ : Value}
    {f_Cutter__feed : Addr} {od_Cutter__feed an_Cutter__feed : Option Addr} {sl_Cutter__feed : Array (Option Value)} {oc_Cutter__feed kV_Cutter__feed dc_Cutter__feed pm_Cutter__feed cd_Cutter__feed ct_Cutter__feed : Value}
    {f_Cutter__broken : Addr} {od_Cutter__broken an_Cutter__broken : Option Addr} {sl_Cutter__broken : Array (Option Value)} {oc_Cutter__broken kV_Cutter__broken dc_Cutter__broken pm_Cutter__broken cd_Cutter__broken ct_Cutter__broken : Value}
    {f_Cutter__waiting : Addr} {od_Cutter__waiting an_Cutter__waiting : Option Addr} {sl_Cutter__waiting : Array (Option Value)} {oc_Cutter__waiting kV_Cutter__waiting dc_Cutter__waiting pm_Cutter__waiting cd_Cutter__waiting ct_Cutter__waiting : Value}
    {f_Cutter___start_frame : Addr} {od_Cutter___start_frame an_Cutter___start_frame : Option Addr} {sl_Cutter___start_frame : Array (Option Value)} {oc_Cutter___start_frame kV_Cutter___start_frame dc_Cutter___start_frame pm_Cutter___start_frame cd_Cutter___start_frame ct_Cutter___start_frame : Value}
    {f_Cutter___take_length : Addr} {od_Cutter___take_length an_Cutter___take_length : Option Addr} {sl_Cutter___take_length : Array (Option Value)} {oc_Cutter___take_length kV_Cutter___take_length dc_Cutter___take_length pm_Cutter___take_length cd_Cutter___take_length ct_Cutter___take_length : Value}
    {f_Cutter___take_text : Addr} {od_Cutter___take_text an_Cutter___take_text : Option Addr} {sl_Cutter___take_text : Array (Option Value)} {oc_Cutter___take_text kV_Cutter___take_text dc_Cutter___take_text pm_Cutter___take_text cd_Cutter___take_text ct_Cutter___take_text : Value}
    {f_Cutter___take_end : Addr} {od_Cutter___take_end an_Cutter___take_end : Option Addr} {sl_Cutter___take_end : Array (Option Value)} {oc_Cutter___take_end kV_Cutter___take_end dc_Cutter___take_end pm_Cutter___take_end cd_Cutter___take_end ct_Cutter___take_end : Value}
    {f_Cutter___break_off : Addr} {od_Cutter___break_off an_Cutter___break_off : Option Addr} {sl_Cutter___break_off : Array (Option Value)} {oc_Cutter___break_off kV_Cutter___break_off dc_Cutter___break_off pm_Cutter___break_off cd_Cutter___break_off ct_Cutter___break_off : Value}
    {t_MOST_LENGTH : Tok}
    (a_is_printable : PySem.W.nsIn K mainGlobals "is_printable" = some (some (.ref f_is_printable)))
    (l_is_printable : K.lookup f_is_printable = some ⟨oc_is_printable, od_is_printable, .func (PySem.W.fnOf "is_printable" "is_printable" (defArgs s_is_printable) (defBody s_is_printable) (defScope s_is_printable) .none kV_is_printable dc_is_printable pm_is_printable an_is_printable cd_is_printable ct_is_printable), sl_is_printable⟩)
    (e_is_printable : PySem.W.codeIn K cd_is_printable "is_printable" = true)
    (k_is_printable : PySem.W.keepIn K (.ref f_is_printable) = true)
    (a_is_decimal : PySem.W.nsIn K mainGlobals "is_decimal" = some (some (.ref f_is_decimal)))
    (l_is_decimal : K.lookup f_is_decimal = some ⟨oc_is_decimal, od_is_decimal, .func (PySem.W.fnOf "is_decimal" "is_decimal" (defArgs s_is_decimal) (defBody s_is_decimal) (defScope s_is_decimal) .none kV_is_decimal dc_is_decimal pm_is_decimal an_is_decimal cd_is_decimal ct_is_decimal), sl_is_decimal⟩)
    (e_is_decimal : PySem.W.codeIn K cd_is_decimal "is_decimal" = true)
    (k_is_decimal : PySem.W.keepIn K (.ref f_is_decimal) = true)
    (a_is_length : PySem.W.nsIn K mainGlobals "is_length" = some (some (.ref f_is_length)))
    (l_is_length : K.lookup f_is_length = some ⟨oc_is_length, od_is_length, .func (PySem.W.fnOf "is_length" "is_length" (defArgs s_is_length) (defBody s_is_length) (defScope s_is_length) .none kV_is_length dc_is_length pm_is_length an_is_length cd_is_length ct_is_length), sl_is_length⟩)
    (e_is_length : PySem.W.codeIn K cd_is_length "is_length" = true)
    (k_is_length : PySem.W.keepIn K (.ref f_is_length) = true)
    (a__law_draws : PySem.W.nsIn K mainGlobals "_law_draws" = some (some (.ref f__law_draws)))
    (l__law_draws : K.lookup f__law_draws = some ⟨oc__law_draws, od__law_draws, .func (PySem.W.fnOf "_law_draws" "_law_draws" (defArgs s__law_draws) (defBody s__law_draws) (defScope s__law_draws) .none kV__law_draws dc__law_draws pm__law_draws an__law_draws cd__law_draws ct__law_draws), sl__law_draws⟩)
    (e__law_draws : PySem.W.codeIn K cd__law_draws "_law_draws" = true)
    (k__law_draws : PySem.W.keepIn K (.ref f__law_draws) = true)
    (a__law_next : PySem.W.nsIn K mainGlobals "_law_next" = some (some (.ref f__law_next)))
    (l__law_next : K.lookup f__law_next = some ⟨oc__law_next, od__law_next, .func (PySem.W.fnOf "_law_next" "_law_next" (defArgs s__law_next) (defBody s__law_next) (defScope s__law_next) .none kV__law_next dc__law_next pm__law_next an__law_next cd__law_next ct__law_next), sl__law_next⟩)
    (e__law_next : PySem.W.codeIn K cd__law_next "_law_next" = true)
    (k__law_next : PySem.W.keepIn K (.ref f__law_next) = true)
    (a__law_char : PySem.W.nsIn K mainGlobals "_law_char" = some (some (.ref f__law_char)))
    (l__law_char : K.lookup f__law_char = some ⟨oc__law_char, od__law_char, .func (PySem.W.fnOf "_law_char" "_law_char" (defArgs s__law_char) (defBody s__law_char) (defScope s__law_char) .none kV__law_char dc__law_char pm__law_char an__law_char cd__law_char ct__law_char), sl__law_char⟩)
    (e__law_char : PySem.W.codeIn K cd__law_char "_law_char" = true)
    (k__law_char : PySem.W.keepIn K (.ref f__law_char) = true)
    (a__law_string : PySem.W.nsIn K mainGlobals "_law_string" = some (some (.ref f__law_string)))
    (l__law_string : K.lookup f__law_string = some ⟨oc__law_string, od__law_string, .func (PySem.W.fnOf "_law_string" "_law_string" (defArgs s__law_string) (defBody s__law_string) (defScope s__law_string) .none kV__law_string dc__law_string pm__law_string an__law_string cd__law_string ct__law_string), sl__law_string⟩)
    (e__law_string : PySem.W.codeIn K cd__law_string "_law_string" = true)
    (k__law_string : PySem.W.keepIn K (.ref f__law_string) = true)
    (a__law_truth : PySem.W.nsIn K mainGlobals "_law_truth" = some (some (.ref f__law_truth)))
    (l__law_truth : K.lookup f__law_truth = some ⟨oc__law_truth, od__law_truth, .func (PySem.W.fnOf "_law_truth" "_law_truth" (defArgs s__law_truth) (defBody s__law_truth) (defScope s__law_truth) .none kV__law_truth dc__law_truth pm__law_truth an__law_truth cd__law_truth ct__law_truth), sl__law_truth⟩)
    (e__law_truth : PySem.W.codeIn K cd__law_truth "_law_truth" = true)
    (k__law_truth : PySem.W.keepIn K (.ref f__law_truth) = true)
    (a__law_spoilt : PySem.W.nsIn K mainGlobals "_law_spoilt" = some (some (.ref f__law_spoilt)))
    (l__law_spoilt : K.lookup f__law_spoilt = some ⟨oc__law_spoilt, od__law_spoilt, .func (PySem.W.fnOf "_law_spoilt" "_law_spoilt" (defArgs s__law_spoilt) (defBody s__law_spoilt) (defScope s__law_spoilt) .none kV__law_spoilt dc__law_spoilt pm__law_spoilt an__law_spoilt cd__law_spoilt ct__law_spoilt), sl__law_spoilt⟩)
    (e__law_spoilt : PySem.W.codeIn K cd__law_spoilt "_law_spoilt" = true)
    (k__law_spoilt : PySem.W.keepIn K (.ref f__law_spoilt) = true)
    (a__law_fed : PySem.W.nsIn K mainGlobals "_law_fed" = some (some (.ref f__law_fed)))
    (l__law_fed : K.lookup f__law_fed = some ⟨oc__law_fed, od__law_fed, .func (PySem.W.fnOf "_law_fed" "_law_fed" (defArgs s__law_fed) (defBody s__law_fed) (defScope s__law_fed) .none kV__law_fed dc__law_fed pm__law_fed an__law_fed cd__law_fed ct__law_fed), sl__law_fed⟩)
    (e__law_fed : PySem.W.codeIn K cd__law_fed "_law_fed" = true)
    (k__law_fed : PySem.W.keepIn K (.ref f__law_fed) = true)
    (a_law : PySem.W.nsIn K mainGlobals "law" = some (some (.ref f_law)))
    (l_law : K.lookup f_law = some ⟨oc_law, od_law, .func (PySem.W.fnOf "law" "law" (defArgs s_law) (defBody s_law) (defScope s_law) .none kV_law dc_law pm_law an_law cd_law ct_law), sl_law⟩)
    (e_law : PySem.W.codeIn K cd_law "law" = true)
    (k_law : PySem.W.keepIn K (.ref f_law) = true)
    (ac_Cutter : PySem.W.nsIn K mainGlobals "Cutter" = some (some (.ref C_Cutter)))
    (pg_Cutter : PySem.W.plainGet K C_Cutter Str.empty = true)
    (hd_Cutter : PySem.W.hasDictIn K C_Cutter = true)
    (po_Cutter : PySem.W.plainOver K C_Cutter = true)
    (sa_Cutter : PySem.W.findIn K (.ref C_Cutter) "__setattr__" = some (some (.builtin "object.__setattr__")))
    (mk_Cutter : PySem.W.makesIn K C_Cutter = true)
    (kc_Cutter : PySem.W.keepIn K (.ref C_Cutter) = true)
    (na_Cutter__broken : PySem.W.findIn K (.ref C_Cutter) "_broken" = some none)
    (na_Cutter__length : PySem.W.findIn K (.ref C_Cutter) "_length" = some none)
    (na_Cutter__missing : PySem.W.findIn K (.ref C_Cutter) "_missing" = some none)
    (na_Cutter__parts : PySem.W.findIn K (.ref C_Cutter) "_parts" = some none)
    (na_Cutter__held : PySem.W.findIn K (.ref C_Cutter) "_held" = some none)
    (a_Cutter____init__ : PySem.W.findIn K (.ref C_Cutter) "__init__" = some (some (.ref f_Cutter____init__)))
    (i_Cutter____init__ : PySem.W.isFn K (.ref f_Cutter____init__) = true)
    (l_Cutter____init__ : K.lookup f_Cutter____init__ = some ⟨oc_Cutter____init__, od_Cutter____init__, .func (PySem.W.fnOf "__init__" "Cutter.__init__" (defArgs s_Cutter____init__) (defBody s_Cutter____init__) (defScope s_Cutter____init__) .none kV_Cutter____init__ dc_Cutter____init__ pm_Cutter____init__ an_Cutter____init__ cd_Cutter____init__ ct_Cutter____init__), sl_Cutter____init__⟩)
    (e_Cutter____init__ : PySem.W.codeIn K cd_Cutter____init__ "Cutter.__init__" = true)
    (k_Cutter____init__ : PySem.W.keepIn K (.ref f_Cutter____init__) = true)
    (a_Cutter__feed : PySem.W.findIn K (.ref C_Cutter) "feed" = some (some (.ref f_Cutter__feed)))
    (i_Cutter__feed : PySem.W.isFn K (.ref f_Cutter__feed) = true)
    (l_Cutter__feed : K.lookup f_Cutter__feed = some ⟨oc_Cutter__feed, od_Cutter__feed, .func (PySem.W.fnOf "feed" "Cutter.feed" (defArgs s_Cutter__feed) (defBody s_Cutter__feed) (defScope s_Cutter__feed) .none kV_Cutter__feed dc_Cutter__feed pm_Cutter__feed an_Cutter__feed cd_Cutter__feed ct_Cutter__feed), sl_Cutter__feed⟩)
    (e_Cutter__feed : PySem.W.codeIn K cd_Cutter__feed "Cutter.feed" = true)
    (k_Cutter__feed : PySem.W.keepIn K (.ref f_Cutter__feed) = true)
    (a_Cutter__broken : PySem.W.findIn K (.ref C_Cutter) "broken" = some (some (.ref f_Cutter__broken)))
    (i_Cutter__broken : PySem.W.isFn K (.ref f_Cutter__broken) = true)
    (l_Cutter__broken : K.lookup f_Cutter__broken = some ⟨oc_Cutter__broken, od_Cutter__broken, .func (PySem.W.fnOf "broken" "Cutter.broken" (defArgs s_Cutter__broken) (defBody s_Cutter__broken) (defScope s_Cutter__broken) .none kV_Cutter__broken dc_Cutter__broken pm_Cutter__broken an_Cutter__broken cd_Cutter__broken ct_Cutter__broken), sl_Cutter__broken⟩)
    (e_Cutter__broken : PySem.W.codeIn K cd_Cutter__broken "Cutter.broken" = true)
    (k_Cutter__broken : PySem.W.keepIn K (.ref f_Cutter__broken) = true)
    (a_Cutter__waiting : PySem.W.findIn K (.ref C_Cutter) "waiting" = some (some (.ref f_Cutter__waiting)))
    (i_Cutter__waiting : PySem.W.isFn K (.ref f_Cutter__waiting) = true)
    (l_Cutter__waiting : K.lookup f_Cutter__waiting = some ⟨oc_Cutter__waiting, od_Cutter__waiting, .func (PySem.W.fnOf "waiting" "Cutter.waiting" (defArgs s_Cutter__waiting) (defBody s_Cutter__waiting) (defScope s_Cutter__waiting) .none kV_Cutter__waiting dc_Cutter__waiting pm_Cutter__waiting an_Cutter__waiting cd_Cutter__waiting ct_Cutter__waiting), sl_Cutter__waiting⟩)
    (e_Cutter__waiting : PySem.W.codeIn K cd_Cutter__waiting "Cutter.waiting" = true)
    (k_Cutter__waiting : PySem.W.keepIn K (.ref f_Cutter__waiting) = true)
    (a_Cutter___start_frame : PySem.W.findIn K (.ref C_Cutter) "_start_frame" = some (some (.ref f_Cutter___start_frame)))
    (i_Cutter___start_frame : PySem.W.isFn K (.ref f_Cutter___start_frame) = true)
    (l_Cutter___start_frame : K.lookup f_Cutter___start_frame = some ⟨oc_Cutter___start_frame, od_Cutter___start_frame, .func (PySem.W.fnOf "_start_frame" "Cutter._start_frame" (defArgs s_Cutter___start_frame) (defBody s_Cutter___start_frame) (defScope s_Cutter___start_frame) .none kV_Cutter___start_frame dc_Cutter___start_frame pm_Cutter___start_frame an_Cutter___start_frame cd_Cutter___start_frame ct_Cutter___start_frame), sl_Cutter___start_frame⟩)
    (e_Cutter___start_frame : PySem.W.codeIn K cd_Cutter___start_frame "Cutter._start_frame" = true)
    (k_Cutter___start_frame : PySem.W.keepIn K (.ref f_Cutter___start_frame) = true)
    (a_Cutter___take_length : PySem.W.findIn K (.ref C_Cutter) "_take_length" = some (some (.ref f_Cutter___take_length)))
    (i_Cutter___take_length : PySem.W.isFn K (.ref f_Cutter___take_length) = true)
    (l_Cutter___take_length : K.lookup f_Cutter___take_length = some ⟨oc_Cutter___take_length, od_Cutter___take_length, .func (PySem.W.fnOf "_take_length" "Cutter._take_length" (defArgs s_Cutter___take_length) (defBody s_Cutter___take_length) (defScope s_Cutter___take_length) .none kV_Cutter___take_length dc_Cutter___take_length pm_Cutter___take_length an_Cutter___take_length cd_Cutter___take_length ct_Cutter___take_length), sl_Cutter___take_length⟩)
    (e_Cutter___take_length : PySem.W.codeIn K cd_Cutter___take_length "Cutter._take_length" = true)
    (k_Cutter___take_length : PySem.W.keepIn K (.ref f_Cutter___take_length) = true)
    (a_Cutter___take_text : PySem.W.findIn K (.ref C_Cutter) "_take_text" = some (some (.ref f_Cutter___take_text)))
    (i_Cutter___take_text : PySem.W.isFn K (.ref f_Cutter___take_text) = true)
    (l_Cutter___take_text : K.lookup f_Cutter___take_text = some ⟨oc_Cutter___take_text, od_Cutter___take_text, .func (PySem.W.fnOf "_take_text" "Cutter._take_text" (defArgs s_Cutter___take_text) (defBody s_Cutter___take_text) (defScope s_Cutter___take_text) .none kV_Cutter___take_text dc_Cutter___take_text pm_Cutter___take_text an_Cutter___take_text cd_Cutter___take_text ct_Cutter___take_text), sl_Cutter___take_text⟩)
    (e_Cutter___take_text : PySem.W.codeIn K cd_Cutter___take_text "Cutter._take_text" = true)
    (k_Cutter___take_text : PySem.W.keepIn K (.ref f_Cutter___take_text) = true)
    (a_Cutter___take_end : PySem.W.findIn K (.ref C_Cutter) "_take_end" = some (some (.ref f_Cutter___take_end)))
    (i_Cutter___take_end : PySem.W.isFn K (.ref f_Cutter___take_end) = true)
    (l_Cutter___take_end : K.lookup f_Cutter___take_end = some ⟨oc_Cutter___take_end, od_Cutter___take_end, .func (PySem.W.fnOf "_take_end" "Cutter._take_end" (defArgs s_Cutter___take_end) (defBody s_Cutter___take_end) (defScope s_Cutter___take_end) .none kV_Cutter___take_end dc_Cutter___take_end pm_Cutter___take_end an_Cutter___take_end cd_Cutter___take_end ct_Cutter___take_end), sl_Cutter___take_end⟩)
    (e_Cutter___take_end : PySem.W.codeIn K cd_Cutter___take_end "Cutter._take_end" = true)
    (k_Cutter___take_end : PySem.W.keepIn K (.ref f_Cutter___take_end) = true)
    (a_Cutter___break_off : PySem.W.findIn K (.ref C_Cutter) "_break_off" = some (some (.ref f_Cutter___break_off)))
    (i_Cutter___break_off : PySem.W.isFn K (.ref f_Cutter___break_off) = true)
    (l_Cutter___break_off : K.lookup f_Cutter___break_off = some ⟨oc_Cutter___break_off, od_Cutter___break_off, .func (PySem.W.fnOf "_break_off" "Cutter._break_off" (defArgs s_Cutter___break_off) (defBody s_Cutter___break_off) (defScope s_Cutter___break_off) .none kV_Cutter___break_off dc_Cutter___break_off pm_Cutter___break_off an_Cutter___break_off cd_Cutter___break_off ct_Cutter___break_off), sl_Cutter___break_off⟩)
    (e_Cutter___break_off : PySem.W.codeIn K cd_Cutter___break_off "Cutter._break_off" = true)
    (k_Cutter___break_off : PySem.W.keepIn K (.ref f_Cutter___break_off) = true)
    (a_MOST_LENGTH : PySem.W.nsIn K mainGlobals "MOST_LENGTH" = some (some (.int 100000 t_MOST_LENGTH)))
    (z_abs : PySem.W.nsIn K mainGlobals "abs" = some none)
    (z_bool : PySem.W.nsIn K mainGlobals "bool" = some none)
    (z_int : PySem.W.nsIn K mainGlobals "int" = some none)
    (z_isinstance : PySem.W.nsIn K mainGlobals "isinstance" = some none)
    (z_len : PySem.W.nsIn K mainGlobals "len" = some none)
    (z_list : PySem.W.nsIn K mainGlobals "list" = some none)
    (z_min : PySem.W.nsIn K mainGlobals "min" = some none)
    (z_range : PySem.W.nsIn K mainGlobals "range" = some none)
    (z_str : PySem.W.nsIn K mainGlobals "str" = some none) : Txt K mg C_Cutter :=
  { d_is_printable := ⟨_, _, (fun_mk l_is_printable e_is_printable k_is_printable), PySem.W.mg_of X G a_is_printable, ((fun_mk (st := s_is_printable) l_is_printable e_is_printable k_is_printable).binds (ps := ["value"]) fun _ _ _ _ _ _ us hl => match us, hl with | [_], _ => rfl)⟩,
    d_is_decimal := ⟨_, _, (fun_mk l_is_decimal e_is_decimal k_is_decimal), PySem.W.mg_of X G a_is_decimal, ((fun_mk (st := s_is_decimal) l_is_decimal e_is_decimal k_is_decimal).binds (ps := ["word"]) fun _ _ _ _ _ _ us hl => match us, hl with | [_], _ => rfl)⟩,
    d_is_length := ⟨_, _, (fun_mk l_is_length e_is_length k_is_length), PySem.W.mg_of X G a_is_length, ((fun_mk (st := s_is_length) l_is_length e_is_length k_is_length).binds (ps := ["digits"]) fun _ _ _ _ _ _ us hl => match us, hl with | [_], _ => rfl)⟩,
    d__law_draws := ⟨_, _, (fun_mk l__law_draws e__law_draws k__law_draws), PySem.W.mg_of X G a__law_draws, ((fun_mk (st := s__law_draws) l__law_draws e__law_draws k__law_draws).binds (ps := ["script"]) fun _ _ _ _ _ _ us hl => match us, hl with | [_], _ => rfl)⟩,
    d__law_next := ⟨_, _, (fun_mk l__law_next e__law_next k__law_next), PySem.W.mg_of X G a__law_next, ((fun_mk (st := s__law_next) l__law_next e__law_next k__law_next).binds (ps := ["draws", "at", "many"]) fun _ _ _ _ _ _ us hl => match us, hl with | [_, _, _], _ => rfl)⟩,
    d__law_char := ⟨_, _, (fun_mk l__law_char e__law_char k__law_char), PySem.W.mg_of X G a__law_char, ((fun_mk (st := s__law_char) l__law_char e__law_char k__law_char).binds (ps := ["number"]) fun _ _ _ _ _ _ us hl => match us, hl with | [_], _ => rfl)⟩,
    d__law_string := ⟨_, _, (fun_mk l__law_string e__law_string k__law_string), PySem.W.mg_of X G a__law_string, ((fun_mk (st := s__law_string) l__law_string e__law_string k__law_string).binds (ps := ["draws", "at", "most"]) fun _ _ _ _ _ _ us hl => match us, hl with | [_, _, _], _ => rfl)⟩,
    d__law_truth := ⟨_, _, (fun_mk l__law_truth e__law_truth k__law_truth), PySem.W.mg_of X G a__law_truth, ((fun_mk (st := s__law_truth) l__law_truth e__law_truth k__law_truth).binds (ps := ["actual", "expected"]) fun _ _ _ _ _ _ us hl => match us, hl with | [_, _], _ => rfl)⟩,
    d__law_spoilt := ⟨_, _, (fun_mk l__law_spoilt e__law_spoilt k__law_spoilt), PySem.W.mg_of X G a__law_spoilt, ((fun_mk (st := s__law_spoilt) l__law_spoilt e__law_spoilt k__law_spoilt).binds (ps := ["draws", "at"]) fun _ _ _ _ _ _ us hl => match us, hl with | [_, _], _ => rfl)⟩,
    d__law_fed := ⟨_, _, (fun_mk l__law_fed e__law_fed k__law_fed), PySem.W.mg_of X G a__law_fed, ((fun_mk (st := s__law_fed) l__law_fed e__law_fed k__law_fed).binds (ps := ["cutter", "chunk", "due"]) fun _ _ _ _ _ _ us hl => match us, hl with | [_, _, _], _ => rfl)⟩,
    d_law := ⟨_, _, (fun_mk l_law e_law k_law), PySem.W.mg_of X G a_law, ((fun_mk (st := s_law) l_law e_law k_law).binds (ps := ["script"]) fun _ _ _ _ _ _ us hl => match us, hl with | [_], _ => rfl)⟩,
    cl_Cutter := ⟨pg_Cutter, hd_Cutter, po_Cutter, sa_Cutter⟩,
    g_Cutter := PySem.W.mg_of X G ac_Cutter,
    na_Cutter__broken := na_Cutter__broken,
    na_Cutter__length := na_Cutter__length,
    na_Cutter__missing := na_Cutter__missing,
    na_Cutter__parts := na_Cutter__parts,
    na_Cutter__held := na_Cutter__held,
    mk_Cutter := ⟨_, _, ⟨mk_Cutter, a_Cutter____init__, i_Cutter____init__, kc_Cutter⟩, (fun_mk l_Cutter____init__ e_Cutter____init__ k_Cutter____init__), ((fun_mk (st := s_Cutter____init__) l_Cutter____init__ e_Cutter____init__ k_Cutter____init__).binds (ps := ["self"]) fun _ _ _ _ _ _ us hl => match us, hl with | [_], _ => rfl)⟩,
    me_Cutter__feed := ⟨_, _, ⟨a_Cutter__feed, i_Cutter__feed, k_Cutter__feed⟩, (fun_mk l_Cutter__feed e_Cutter__feed k_Cutter__feed), ((fun_mk (st := s_Cutter__feed) l_Cutter__feed e_Cutter__feed k_Cutter__feed).binds (ps := ["self", "chunk"]) fun _ _ _ _ _ _ us hl => match us, hl with | [_, _], _ => rfl)⟩,
    me_Cutter__broken := ⟨_, _, ⟨a_Cutter__broken, i_Cutter__broken, k_Cutter__broken⟩, (fun_mk l_Cutter__broken e_Cutter__broken k_Cutter__broken), ((fun_mk (st := s_Cutter__broken) l_Cutter__broken e_Cutter__broken k_Cutter__broken).binds (ps := ["self"]) fun _ _ _ _ _ _ us hl => match us, hl with | [_], _ => rfl)⟩,
    me_Cutter__waiting := ⟨_, _, ⟨a_Cutter__waiting, i_Cutter__waiting, k_Cutter__waiting⟩, (fun_mk l_Cutter__waiting e_Cutter__waiting k_Cutter__waiting), ((fun_mk (st := s_Cutter__waiting) l_Cutter__waiting e_Cutter__waiting k_Cutter__waiting).binds (ps := ["self"]) fun _ _ _ _ _ _ us hl => match us, hl with | [_], _ => rfl)⟩,
    me_Cutter___start_frame := ⟨_, _, ⟨a_Cutter___start_frame, i_Cutter___start_frame, k_Cutter___start_frame⟩, (fun_mk l_Cutter___start_frame e_Cutter___start_frame k_Cutter___start_frame), ((fun_mk (st := s_Cutter___start_frame) l_Cutter___start_frame e_Cutter___start_frame k_Cutter___start_frame).binds (ps := ["self"]) fun _ _ _ _ _ _ us hl => match us, hl with | [_], _ => rfl)⟩,
    me_Cutter___take_length := ⟨_, _, ⟨a_Cutter___take_length, i_Cutter___take_length, k_Cutter___take_length⟩, (fun_mk l_Cutter___take_length e_Cutter___take_length k_Cutter___take_length), ((fun_mk (st := s_Cutter___take_length) l_Cutter___take_length e_Cutter___take_length k_Cutter___take_length).binds (ps := ["self", "character"]) fun _ _ _ _ _ _ us hl => match us, hl with | [_, _], _ => rfl)⟩,
    me_Cutter___take_text := ⟨_, _, ⟨a_Cutter___take_text, i_Cutter___take_text, k_Cutter___take_text⟩, (fun_mk l_Cutter___take_text e_Cutter___take_text k_Cutter___take_text), ((fun_mk (st := s_Cutter___take_text) l_Cutter___take_text e_Cutter___take_text k_Cutter___take_text).binds (ps := ["self", "taken"]) fun _ _ _ _ _ _ us hl => match us, hl with | [_, _], _ => rfl)⟩,
    me_Cutter___take_end := ⟨_, _, ⟨a_Cutter___take_end, i_Cutter___take_end, k_Cutter___take_end⟩, (fun_mk l_Cutter___take_end e_Cutter___take_end k_Cutter___take_end), ((fun_mk (st := s_Cutter___take_end) l_Cutter___take_end e_Cutter___take_end k_Cutter___take_end).binds (ps := ["self", "character"]) fun _ _ _ _ _ _ us hl => match us, hl with | [_, _], _ => rfl)⟩,
    me_Cutter___break_off := ⟨_, _, ⟨a_Cutter___break_off, i_Cutter___break_off, k_Cutter___break_off⟩, (fun_mk l_Cutter___break_off e_Cutter___break_off k_Cutter___break_off), ((fun_mk (st := s_Cutter___break_off) l_Cutter___break_off e_Cutter___break_off k_Cutter___break_off).binds (ps := ["self"]) fun _ _ _ _ _ _ us hl => match us, hl with | [_], _ => rfl)⟩,
    c_MOST_LENGTH := ⟨_, PySem.W.mg_of X G a_MOST_LENGTH, _, rfl⟩,
    z_abs := PySem.W.mg_none_of X G z_abs,
    z_bool := PySem.W.mg_none_of X G z_bool,
    z_int := PySem.W.mg_none_of X G z_int,
    z_isinstance := PySem.W.mg_none_of X G z_isinstance,
    z_len := PySem.W.mg_none_of X G z_len,
    z_list := PySem.W.mg_none_of X G z_list,
    z_min := PySem.W.mg_none_of X G z_min,
    z_range := PySem.W.mg_none_of X G z_range,
    z_str := PySem.W.mg_none_of X G z_str }
end Law
open PySem PySem.W PyProof.Rows
set_option maxRecDepth 100000 in
set_option maxHeartbeats 0 in
theorem PySem.Challenge.cw_oathledger_k13_whole_broken_streams_holds : PySem.Challenge.rw_oathledger_k13_whole_broken_streams.Holds := by
  w_on; o_law; k_head; (case hw => w_witness2)
  k_fill
  refine L2.walk_of (l := PySem.Challenge.rw_oathledger_k13_whole_broken_streams) (n := 63) (k := 13) (x := "script") (CX := fun _ => L2.CX0) (sp := fun w => Law.spLaw _) rfl (by decide) rfl ⟨rfl, by decide, by decide⟩ (fun w h Y => PySem.W.kIn_of Y) ?F (fun _ _ a ns hl _ hS => ⟨a, ns, rfl, hS, hl, fun _ => rfl⟩) (fun _ _ _ _ _ h => h)
  case F =>
    intro w mg fa h KX G hmg
    refine' Law.fin hmg (Law.all_mk KX G ?a_is_printable ?l_is_printable ?e_is_printable ?k_is_printable ?a_is_decimal ?l_is_decimal ?e_is_decimal ?k_is_decimal ?a_is_length ?l_is_length ?e_is_length ?k_is_length ?a__law_draws ?l__law_draws ?e__law_draws ?k__law_draws ?a__law_next ?l__law_next ?e__law_next ?k__law_next ?a__law_char ?l__law_char ?e__law_char ?k__law_char ?a__law_string ?l__law_string ?e__law_string ?k__law_string ?a__law_truth ?l__law_truth ?e__law_truth ?k__law_truth ?a__law_spoilt ?l__law_spoilt ?e__law_spoilt ?k__law_spoilt ?a__law_fed ?l__law_fed ?e__law_fed ?k__law_fed ?a_law ?l_law ?e_law ?k_law ?ac_Cutter ?pg_Cutter ?hd_Cutter ?po_Cutter ?sa_Cutter ?mk_Cutter ?kc_Cutter ?na_Cutter__broken ?na_Cutter__length ?na_Cutter__missing ?na_Cutter__parts ?na_Cutter__held ?a_Cutter____init__ ?i_Cutter____init__ ?l_Cutter____init__ ?e_Cutter____init__ ?k_Cutter____init__ ?a_Cutter__feed ?i_Cutter__feed ?l_Cutter__feed ?e_Cutter__feed ?k_Cutter__feed ?a_Cutter__broken ?i_Cutter__broken ?l_Cutter__broken ?e_Cutter__broken ?k_Cutter__broken ?a_Cutter__waiting ?i_Cutter__waiting ?l_Cutter__waiting ?e_Cutter__waiting ?k_Cutter__waiting ?a_Cutter___start_frame ?i_Cutter___start_frame ?l_Cutter___start_frame ?e_Cutter___start_frame ?k_Cutter___start_frame ?a_Cutter___take_length ?i_Cutter___take_length ?l_Cutter___take_length ?e_Cutter___take_length ?k_Cutter___take_length ?a_Cutter___take_text ?i_Cutter___take_text ?l_Cutter___take_text ?e_Cutter___take_text ?k_Cutter___take_text ?a_Cutter___take_end ?i_Cutter___take_end ?l_Cutter___take_end ?e_Cutter___take_end ?k_Cutter___take_end ?a_Cutter___break_off ?i_Cutter___break_off ?l_Cutter___break_off ?e_Cutter___break_off ?k_Cutter___break_off ?a_MOST_LENGTH ?z_abs ?z_bool ?z_int ?z_isinstance ?z_len ?z_list ?z_min ?z_range ?z_str)
    (case a_is_printable => k_is)
    (case l_is_printable => k_is)
    (case e_is_printable => k_is)
    (case k_is_printable => k_is)
    (case a_is_decimal => k_is)
    (case l_is_decimal => k_is)
    (case e_is_decimal => k_is)
    (case k_is_decimal => k_is)
    (case a_is_length => k_is)
    (case l_is_length => k_is)
    (case e_is_length => k_is)
    (case k_is_length => k_is)
    (case a__law_draws => k_is)
    (case l__law_draws => k_is)
    (case e__law_draws => k_is)
    (case k__law_draws => k_is)
    (case a__law_next => k_is)
    (case l__law_next => k_is)
    (case e__law_next => k_is)
    (case k__law_next => k_is)
    (case a__law_char => k_is)
    (case l__law_char => k_is)
    (case e__law_char => k_is)
    (case k__law_char => k_is)
    (case a__law_string => k_is)
    (case l__law_string => k_is)
    (case e__law_string => k_is)
    (case k__law_string => k_is)
    (case a__law_truth => k_is)
    (case l__law_truth => k_is)
    (case e__law_truth => k_is)
    (case k__law_truth => k_is)
    (case a__law_spoilt => k_is)
    (case l__law_spoilt => k_is)
    (case e__law_spoilt => k_is)
    (case k__law_spoilt => k_is)
    (case a__law_fed => k_is)
    (case l__law_fed => k_is)
    (case e__law_fed => k_is)
    (case k__law_fed => k_is)
    (case a_law => k_is)
    (case l_law => k_is)
    (case e_law => k_is)
    (case k_law => k_is)
    (case ac_Cutter => k_is)
    (case pg_Cutter => k_is)
    (case hd_Cutter => k_is)
    (case po_Cutter => k_is)
    (case sa_Cutter => k_is)
    (case mk_Cutter => k_is)
    (case kc_Cutter => k_is)
    (case na_Cutter__broken => k_is)
    (case na_Cutter__length => k_is)
    (case na_Cutter__missing => k_is)
    (case na_Cutter__parts => k_is)
    (case na_Cutter__held => k_is)
    (case a_Cutter____init__ => k_is)
    (case i_Cutter____init__ => k_is)
    (case l_Cutter____init__ => k_is)
    (case e_Cutter____init__ => k_is)
    (case k_Cutter____init__ => k_is)
    (case a_Cutter__feed => k_is)
    (case i_Cutter__feed => k_is)
    (case l_Cutter__feed => k_is)
    (case e_Cutter__feed => k_is)
    (case k_Cutter__feed => k_is)
    (case a_Cutter__broken => k_is)
    (case i_Cutter__broken => k_is)
    (case l_Cutter__broken => k_is)
    (case e_Cutter__broken => k_is)
    (case k_Cutter__broken => k_is)
    (case a_Cutter__waiting => k_is)
    (case i_Cutter__waiting => k_is)
    (case l_Cutter__waiting => k_is)
    (case e_Cutter__waiting => k_is)
    (case k_Cutter__waiting => k_is)
    (case a_Cutter___start_frame => k_is)
    (case i_Cutter___start_frame => k_is)
    (case l_Cutter___start_frame => k_is)
    (case e_Cutter___start_frame => k_is)
    (case k_Cutter___start_frame => k_is)
    (case a_Cutter___take_length => k_is)
    (case i_Cutter___take_length => k_is)
    (case l_Cutter___take_length => k_is)
    (case e_Cutter___take_length => k_is)
    (case k_Cutter___take_length => k_is)
    (case a_Cutter___take_text => k_is)
    (case i_Cutter___take_text => k_is)
    (case l_Cutter___take_text => k_is)
    (case e_Cutter___take_text => k_is)
    (case k_Cutter___take_text => k_is)
    (case a_Cutter___take_end => k_is)
    (case i_Cutter___take_end => k_is)
    (case l_Cutter___take_end => k_is)
    (case e_Cutter___take_end => k_is)
    (case k_Cutter___take_end => k_is)
    (case a_Cutter___break_off => k_is)
    (case i_Cutter___break_off => k_is)
    (case l_Cutter___break_off => k_is)
    (case e_Cutter___break_off => k_is)
    (case k_Cutter___break_off => k_is)
    (case a_MOST_LENGTH => k_is)
    (case z_abs => k_is)
    (case z_bool => k_is)
    (case z_int => k_is)
    (case z_isinstance => k_is)
    (case z_len => k_is)
    (case z_list => k_is)
    (case z_min => k_is)
    (case z_range => k_is)
    (case z_str => k_is)

