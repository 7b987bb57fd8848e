--@ins
import PyProof.Rows.All
import Wide.All
import OpenK.AllK
import Wide.FinOn
import HandS.ForMost
import HandS.Walk
import HandS.Flow
import HandS.Codes
import HandS.IsInst
import HandS.Conv
import HandS.StrMore
import PyProof.MeetsSeq2
import PyProof.DictTable
import HandS.Wide
import HandS.TupAny
import HandS.More
import HandS.Dict
import HandS.ForExc
import HandS.ExcIs
import HandS.ExcField
import HandS.DeepEq
import HandS.TupLe
import HandS.Steps
import HandS.ExcInit
import HandS.SortRule
import HandS.RaiseMore
import HandS.Zip
import PySem.Challenge.RW_oathledger_k41_words_of_commands
set_option Elab.async false
set_option linter.all false
set_option maxRecDepth 100000
set_option maxHeartbeats 4000000
namespace Law
open PySem PySem.Spec PyProof.Rows L2
open C8 (Cal Met Mak pe_c pe_mk pe_mt pe_mt0 pe_gc pss_cut tCut)
/-! ### a def of the top, by its name -/
structure DefOk (K : PySem.W.Frag) (mg : Str → Option Value) (x : Str) (st : Stmt) (ps : List Str) : Prop where
  ex : ∃ (f : Addr) (fd : FuncData), L2.Fun K x x st f fd ∧ mg x = some (.ref f) ∧ Binds K fd ps []
section
variable {P : Program} {w : World} {K : PySem.W.Frag} {mg : Str → Option Value} {base : Heap}
/-- a def's promise, by its body -/
theorem cal {x : Str} {st : Stmt} {N ps : List Str} {k : Nat} {sp : Sp} (D : DefOk K mg x st ps) (S : FnScope N ps (defScope st)) (len : ∀ vs H Q E, sp vs H Q E → vs.length = ps.length)
    (hbody : ∀ (f : Addr) (cdv : Value) (A : Around) (outer : List Env) (s : Shared) (H : Hp) (vs : List V) (Q : VK) (E : XK), Room k (A.deeper (envOfC x (defScope st) s.heap.objs.size f cdv)) → sp vs H Q E →
      ∃ t, PSs (cxOf L2.CX0 P w K mg base N x (defScope st) f cdv A outer s H E).nox (defBody st) t ∧ t { nx := fun _ H' => Q .non H', rt := Q } (start N vs) H) : Cal P w K mg base (k + 1) x sp [] := by
  obtain ⟨f, fd, F, hm, b⟩ := D.ex
  exact ⟨f, fd, ps, [], F.ok S len (fun cdv A outer s H vs Q E hr h => hbody f cdv A outer s H vs Q E hr h), hm, F.kp, b, .nil⟩
/-- a call without arguments -/
theorem pe_c0 {X : Cx} {k j : Nat} {x : Str} {sp : Sp} {dvs : List V} {p pos : Pos} (c : Cal X.prog X.w X.K X.mg X.base k x sp dvs) (hr : Room j X.A) (hk : k ≤ j) (hg : Gl X x)
    (hdb : (x == ("__debug__" : Str)) = false := by decide) : PE X (.Call (.Name x p) [] [] pos) (tCall sp dvs L2.E0 tNil) := by
  obtain ⟨f, fd, ps, ds, F, hm, kp, b, d⟩ := c.ex
  exact pe_call0 F (hr.mono hk) hg hm kp b d pass0 hdb
end
/-! ### small things -/
theorem same_upd {H : Hp} {p : Addr} {o : HO} (h : H p = none) : Same H (upd H p o) := fun b x e => by
  rw [upd_ne (ne_of_none e h)]
  exact e
theorem same_mut {H H' : Hp} {p : Addr} {o : HO} (s : Same H H') (h : H p = none) : Same H (upd H' p o) := fun b x e => by
  rw [upd_ne (ne_of_none e h)]
  exact s b x e
theorem sz1000 {n : Nat} (h : n ≤ 100000) : n ≤ sizeLine := Nat.le_trans h (by decide)
theorem sz1000' {n : Nat} (h : n < 100000) : n < sizeLine := Nat.lt_of_lt_of_le h (by decide)
theorem sz1000'' {n : Nat} (h : n ≤ 16777216) : n ≤ sizeLine := by rw [sizeLine_eq]; exact h
theorem sq {K : PySem.W.Frag} {H : Hp} {a : Addr} {xs : List V} (h : H a = some (.lst xs)) : SqL K H a xs := .inl (.inl h)
def spLaw (K : PySem.W.Frag) : Sp := fun vs H Q _ => ∃ (a : Addr) (ns : List Int), vs = [.ref a] ∧ SqL K H a (ns.map V.int) ∧ ns.length ≤ 63 ∧ ∀ H', Q (.bl true) H'
/-! ### the reading, step by step -/
local macro_rules | `(tactic| walk_at "sd") => `(tactic| first
  | omega
  | decide
  | assumption
  | (show _ ∨ _; exact Or.inl ⟨by omega, by omega⟩)
  | (show _ ∨ _; exact Or.inr ⟨by omega, by omega⟩)
  | (show _ ∧ _; exact ⟨by omega, by omega⟩)
  | (show _ ∧ _; exact ⟨by decide, by decide⟩)
  | exact sz1000 (by omega)
  | exact sz1000' (by omega))
local macro_rules | `(tactic| walk_at "sz") => `(tactic| first
  | exact sz1000 (Nat.le_of_ble_eq_true rfl)
  | exact sz1000 (by omega)
  | exact sz1000'' (by omega)
  | assumption)
/-- one step of a reading: a slot, an operator upon numbers, a call upon values -/
local macro_rules | `(tactic| walk_at "rd") => `(tactic| first
  | refine ⟨_, (rfl : (_ : List (Option V))[_]? = some (some _)), ?_⟩
  | refine ⟨_, _, (rfl : (_ : V) = _), (rfl : (_ : V) = _), (by walk_at "sd" : (_ : Prop)), ?_⟩
  | refine ⟨_, _, (rfl : (_ : V) = _), (rfl : (_ : V) = _), ?_⟩
  | refine ⟨_, (rfl : (_ : List V) = _), (by walk_at "sd" : (_ : Prop)), (by walk_at "sd" : (_ : Prop)), ?_⟩
  | refine ⟨_, (rfl : (_ : List V) = _), ?_⟩
  | refine ⟨_, (rfl : (_ : V) = _), ?_⟩
  | refine .inl ⟨_, (rfl : (_ : List V) = _), ?_⟩
  | refine ⟨⟨_, (rfl : (_ : V) = _)⟩, ?_⟩
  | refine ⟨(rfl : scal _ _ = true), ?_⟩
  | refine ⟨(rfl : V.non = V.non), ?_⟩
  | refine ⟨(by walk_at "sz" : (_ ≤ sizeLine)), ?_⟩)
local macro_rules | `(tactic| walk_at "rds") => `(tactic| repeat walk_at "rd")
theorem tyes {σ : L2.St} {H : Hp} {A B : Hp → Prop} (h : A H) : tYes σ H (fun b H3 => if b = true then A H3 else B H3) := by
  show (if true = true then A H else B H)
  rw [if_pos rfl]
  exact h
theorem sum_ones {ys : List Str} (h : ∀ y ∈ ys, y.length = 1) : (ys.map (fun x => x.length)).sum = ys.length := by
  induction ys with
  | nil => rfl
  | cons y r ih =>
    rw [List.map_cons, List.sum_cons, ih (fun z hz => h z (List.mem_cons_of_mem _ hz)), h y List.mem_cons_self, List.length_cons]
    omega
theorem chr_at {z : Str} {i : Int} (h0 : 0 ≤ i) (h1 : i < z.length) : ∃ c, atI z.cps.toList i = some c := by
  obtain ⟨j, rfl⟩ := Int.eq_ofNat_of_zero_le h0
  have hj : j < z.cps.toList.length := by
    rw [Array.length_toList]
    exact Int.ofNat_lt.mp h1
  exact ⟨z.cps.toList[j], atI_nat (List.getElem?_eq_getElem hj)⟩
/-- what an append to a tracked new list leaves -/
theorem lst_app {α : Type} {H : Hp} {D : Addr} {f : α → V} {ys : List α} {y : α} : upd H D (.lst (ys.map f ++ [f y])) D = some (.lst ((ys ++ [y]).map f)) := by
  rw [upd_same, List.map_append]
  rfl
theorem rg40 {n : Nat} (h : n ≤ 100000) : RgC 0 n 40 ((n + 39) / 40) := by
  have e : Builtin.Range.rangeSize 0 (n : Int) 40 = (((n + 39) / 40 : Nat) : Int) := by
    rw [rangeSize_pos (by decide) (by omega)]
    omega
  refine ⟨by decide, by decide, ?_, e⟩
  unfold Builtin.Range.small
  rw [e]
  unfold Builtin.Range.rangeFitsLong
  simp
  omega
theorem isi {K : PySem.W.Frag} {H : Hp} {x : V} {T1 T2 : String} {b : Bool} {Q : VK} (ty : TyX K H x (.type T1)) (e : kitB T1 T2 = some b) (q : Q (.bl b) H) : rIsi K [x, .ty T2] H Q :=
  ⟨x, .ty T2, _, _, b, rfl, .ty _, ty, kit_ty e, q⟩
theorem ifT {c : Bool} {A B : Prop} (hc : c = true) (h : A) : if c = true then A else B := by
  rw [if_pos hc]
  exact h
theorem ifF {c : Bool} {A B : Prop} (hc : c = false) (h : B) : if c = true then A else B := by
  rw [if_neg (by rw [hc]; decide)]
  exact h
local macro_rules | `(tactic| walk_at "isk") => `(tactic| first
  | exact .base (.int _) | exact .base (.str _) | exact .base (.bl _) | exact .base .non
  | exact .base (.lst (by assumption)) | exact .base (.tup (by assumption)) | exact .base (.dK (by assumption)))
/-- isinstance(x, T) with a built-in T; the object's fact stands in the context -/
local macro_rules | `(tactic| walk_at "isi") => `(tactic| first
  | refine ⟨_, .ty _, _, _, true, (rfl : (_ : List V) = _), .ty _, (by walk_at "isk"), kit_ty (by decide +kernel), ?_⟩
  | refine ⟨_, .ty _, _, _, false, (rfl : (_ : List V) = _), .ty _, (by walk_at "isk"), kit_ty (by decide +kernel), ?_⟩)
/-! ### classes of the top -/
structure MethOk (K : PySem.W.Frag) (C : Addr) (m qual : Str) (st : Stmt) (ps : List Str) : Prop where
  ex : ∃ (f : Addr) (fd : FuncData), Meth K C m f ∧ L2.Fun K m qual st f fd ∧ Binds K fd ps []
structure MakOk (K : PySem.W.Frag) (C : Addr) (qual : Str) (st : Stmt) (ps : List Str) : Prop where
  ex : ∃ (f : Addr) (fd : FuncData), Mk K C f ∧ L2.Fun K "__init__" qual st f fd ∧ Binds K fd ps []
section
variable {P : Program} {w : World} {K : PySem.W.Frag} {mg : Str → Option Value} {base : Heap}
theorem met {C : Addr} {m qual : Str} {st : Stmt} {N ps : List Str} {k : Nat} {sp : Sp} (c : Cls K C) (D : MethOk K C m qual st ps) (S : FnScope N ps (defScope st)) (len : ∀ vs H Q E, sp vs H Q E → vs.length = ps.length)
    (hbody : ∀ (f : Addr) (cdv : Value) (A : Around) (outer : List Env) (s : Shared) (H : Hp) (vs : List V) (Q : VK) (E : XK), Room k (A.deeper (envOfC qual (defScope st) s.heap.objs.size f cdv)) → sp vs H Q E →
      ∃ t, PSs (cxOf L2.CX0 P w K mg base N qual (defScope st) f cdv A outer s H E).nox (defBody st) t ∧ t { nx := fun _ H' => Q .non H', rt := Q } (start N vs) H) : Met P w K mg base (k + 1) C m sp [] := by
  obtain ⟨f, fd, M, F, b⟩ := D.ex
  exact ⟨f, fd, ps, [], c, M, F.ok S len (fun cdv A outer s H vs Q E hr h => hbody f cdv A outer s H vs Q E hr h), b, .nil⟩
theorem mak {C : Addr} {x qual : Str} {st : Stmt} {N ps : List Str} {k : Nat} {sp : Sp} (hm : mg x = some (.ref C)) (D : MakOk K C qual st ps) (S : FnScope N ps (defScope st)) (len : ∀ vs H Q E, sp vs H Q E → vs.length = ps.length)
    (hbody : ∀ (f : Addr) (cdv : Value) (A : Around) (outer : List Env) (s : Shared) (H : Hp) (vs : List V) (Q : VK) (E : XK), Room k (A.deeper (envOfC qual (defScope st) s.heap.objs.size f cdv)) → sp vs H Q E →
      ∃ t, PSs (cxOf L2.CX0 P w K mg base N qual (defScope st) f cdv A outer s H E).nox (defBody st) t ∧ t { nx := fun _ H' => Q .non H', rt := Q } (start N vs) H) : Mak P w K mg base (k + 1) x C sp [] := by
  obtain ⟨f, fd, M, F, b⟩ := D.ex
  exact ⟨f, fd, ps, [], M, F.ok S len (fun cdv A outer s H vs Q E hr h => hbody f cdv A outer s H vs Q E hr h), hm, b, .nil⟩
end
/-- a tuple of the top, in the written part -/
def KTup (K : PySem.W.Frag) (a : Addr) (xs : List V) : Prop := ∃ o its n, K.lookup a = some o ∧ o.cls = Value.type "tuple" ∧ o.data = Data.seq its n ∧ its.size ≤ sizeLine ∧ Vals xs its.toList
theorem pe_mk0 {X : Cx} {k j : Nat} {x : Str} {C : Addr} {sp : Sp} {dvs : List V} {p pos : Pos} (c : Mak X.prog X.w X.K X.mg X.base k x C sp dvs) (hr : Room j X.A) (hk : k + 1 ≤ j) (hg : Gl X x)
    (hdb : (x == ("__debug__" : Str)) = false := by decide) : PE X (.Call (.Name x p) [] [] pos) (tMake C sp dvs L2.E0 tNil) := by
  obtain ⟨f, fd, ps, ds, M, F, hm, b, d⟩ := c.ex
  exact pe_make0 M F (hr.mono hk) hg hm b d pass0 hdb
/-! ### rules whose written part is named K (a comprehension's context is another one) -/
section
variable {X : Cx} {K : PySem.W.Frag}
theorem kin (h : X.K = K := by rfl) : OpR X (compareOp .In) (rIn K false) := by subst h; exact op_in_seq
theorem knin (h : X.K = K := by rfl) : OpR X (compareOp .NotIn) (rIn K true) := by subst h; exact op_notIn_seq
theorem kixl (h : X.K = K := by rfl) : IxR X (rIxL K) := by subst h; exact ix_list
theorem kixt (h : X.K = K := by rfl) : IxR X (rIxT K) := by subst h; exact ix_tup
theorem ksll (h : X.K = K := by rfl) : SlR X (rSlL K) := by subst h; exact sl_list
theorem kisi (h : X.K = K := by rfl) : CallR X (.builtin "isinstance") (rIsi K) := by subst h; exact call_isi
theorem kfld {o : Expr} {f : Str} {pos : Pos} {ta : TE} (he : PE X o ta) (hb : attributeBase o f X.env (eval o X.env) = eval o X.env := by rfl) (h : X.K = K := by rfl) : PE X (.Attribute o f pos) (tFld K ta f) := by subst h; exact pe_fld he hb
def rLenK (K : PySem.W.Frag) : List V → Hp → VK → Prop := fun xs H Q => ∃ p ys, xs = [.ref p] ∧ (SqL K H p ys ∨ SqT K H p ys) ∧ Q (.int ys.length) H
theorem klen (h : X.K = K := by rfl) : CallR X (.builtin "len") (rLenK K) := by subst h; exact call_len_seq
end
theorem hu1 {k : Nat} {A : Around} (hr : Room k A) : A.units + 1 < cLine := by have := hr.units; omega
section
variable {X : Cx}
theorem kdin {d : Addr} (h : ∃ es n, KDict X.K X.w d es n) : OpR X (compareOp .In) (fun x y H Q => ∃ (z : Str) (r : Option Value), x = .str z ∧ y = .ref d ∧ PySem.W.nsIn X.K d z = some r ∧ Q (.bl r.isSome) H) := by
  obtain ⟨es, n, D⟩ := h
  exact op_in_kd D
theorem kdnin {d : Addr} (h : ∃ es n, KDict X.K X.w d es n) : OpR X (compareOp .NotIn) (fun x y H Q => ∃ (z : Str) (r : Option Value), x = .str z ∧ y = .ref d ∧ PySem.W.nsIn X.K d z = some r ∧ Q (.bl (!r.isSome)) H) := by
  obtain ⟨es, n, D⟩ := h
  exact op_notIn_kd D
end

/-! ### x.translate({37: None}) of an ASCII text: the sign with code 37 is left out -/
section
open PySem PySem.Builtin PySem.Builtin.Str
/-- what the table tells of a sign -/
def Tl37 {prog : Program} {w : World} (f : Key → Option Value) : Prop := ∀ c : Nat, f (Sum.inl (c : Int)) = if c = 37 then some Value.none else none
theorem mapOfK {prog : Program} {w : World} {h h' : Heap} {a : Addr} {f : Key → Option Value} (m : h.MapOf (mixKind prog w) a f) (k : ∀ b o, h.get? b = some o → h'.get? b = some o) : h'.MapOf (mixKind prog w) a f := by
  obtain ⟨o, es, ep, ho, r⟩ := m
  exact ⟨o, es, ep, k _ _ ho, r⟩
theorem tl37 {prog : Program} {w : World} {A : Around} {E : Value → Shared → Prop} {s : Shared} {d : Addr} {c : Nat} {f : Key → Option Value} {Q : Mapped → Shared → Prop} (hh : A.handled = none) (hd : (d == sysModules) = false) (hm : s.heap.MapOf (mixKind prog w) d f) (hk : Tl37 (prog := prog) (w := w) f)
    (h1 : c = 37 → ∀ h' k, (∀ b o, s.heap.get? b = some o → h'.get? b = some o) → Q .drop { s with heap := h', toks := k })
    (h2 : c ≠ 37 → ∀ h' k, (∀ b o, s.heap.get? b = some o → h'.get? b = some o) → Q .keep { s with heap := h', toks := k }) : wpAny (model prog w) A (tableLookup (.ref d) c) Q E s := by
  unfold tableLookup
  refine wpAny_bind (wpAny_attempt (wpAny_bind (wpAny_mkInt ?_)))
  have hf := hk c
  by_cases hc : c = 37
  · rw [if_pos hc] at hf
    refine wpAny_getItem_of (knd := mixKind prog w) (k := Sum.inl (c : Int)) (mixKind_int prog w _ _) hm hf ?_
    exact wpAny_pure (h1 hc s.heap _ fun _ _ e => e)
  · rw [if_neg hc] at hf
    refine wpAny_getItem_missing_of (knd := mixKind prog w) (k := Sum.inl (c : Int)) (mixKind_int prog w _ _) hd hh hm hf fun h' e hx => ?_
    show wpAny _ _ (do let b ← isInstance (.ref e) (.type "LookupError"); _) _ _ _
    obtain ⟨ob, t, ho, hc2, _⟩ := hx.there
    refine wpAny_bind (wpAny_isInstance (T := "KeyError") (b := true) ⟨ob, ho, hc2⟩ (by first | rfl | kernel_rfl) ?_)
    show wpAny _ _ (if true = true then (do rule "str.translate.not-in-table"; pure Mapped.keep) else _) _ _ _
    rw [if_pos rfl]
    exact wpAny_bind (wpAny_rule (wpAny_pure (h2 hc h' _ hx.keeps)))
theorem pieces37 : ∀ (l : List Nat) (acc : Array Nat), List.foldl (fun acc (p : Str) => acc ++ p.cps) acc (l.map fun c => (⟨#[c]⟩ : Str)) = acc ++ l.toArray
  | [], acc => by
    show acc = acc ++ #[]
    rw [Array.append_empty]
  | c :: l, acc => by
    rw [List.map_cons, List.foldl_cons, pieces37 l]
    apply Array.toList_inj.mp
    simp
theorem look_new {c c' : Nat} {a b : Option Nat} {known : List (Nat × Option Nat)} (h : List.lookup c' ((c, a) :: known) = some b) : (c' = c ∧ b = a) ∨ List.lookup c' known = some b := by
  rw [List.lookup_cons] at h
  by_cases e : c' = c
  · rw [e, beq_self_eq_true] at h
    exact Or.inl ⟨e, (Option.some.inj h).symm⟩
  · have e2 : (c' == c) = false := beq_eq_false_iff_ne.mpr e
    rw [e2] at h
    exact Or.inr h
def out37 (l : List Nat) : List Nat := l.filter (fun c => decide (c ≠ 37))
def an37 (c : Nat) : Option Nat := if c = 37 then none else some c
/-- what stands while the signs are walked -/
def Tr37 (x : List Nat) (s : Shared) (rest : List Nat) (st : List Str × Nat × Bool × List (Nat × Option Nat) × Bool) (s' : Shared) : Prop :=
  ∃ (past : List Nat) (pieces : List Str) (known : List (Nat × Option Nat)) (h' : Heap) (k : Nat), x = past ++ rest ∧ st = (pieces, (out37 past).length, true, known, false) ∧ pieces.reverse = (out37 past).map (fun c => (⟨#[c]⟩ : Str)) ∧
    (∀ c a, List.lookup c known = some a → a = an37 c) ∧ s' = { s with heap := h', toks := k } ∧ ∀ b o, s.heap.get? b = some o → h'.get? b = some o
theorem Tr37.keep {x : List Nat} {s : Shared} {rest past : List Nat} {c : Nat} {pieces : List Str} {known : List (Nat × Option Nat)} {h' : Heap} {k : Nat} (hc : c ≠ 37) (h1 : x = past ++ c :: rest)
    (h3 : pieces.reverse = (out37 past).map (fun c => (⟨#[c]⟩ : Str))) (h4 : ∀ c a, List.lookup c known = some a → a = an37 c) (h6 : ∀ b o, s.heap.get? b = some o → h'.get? b = some o) :
    Tr37 x s rest (⟨#[c]⟩ :: pieces, (out37 past).length + 1, true, known, false) { s with heap := h', toks := k } := by
  have e : out37 (past ++ [c]) = out37 past ++ [c] := by
    unfold out37
    rw [List.filter_append, List.filter_cons_of_pos (by simpa using hc), List.filter_nil]
  refine ⟨past ++ [c], ⟨#[c]⟩ :: pieces, known, h', k, ?_, ?_, ?_, h4, rfl, h6⟩
  · rw [h1, List.append_assoc] <;> rfl
  · rw [e, List.length_append] <;> rfl
  · rw [e, List.reverse_cons, h3, List.map_append] <;> rfl
theorem Tr37.drop {x : List Nat} {s : Shared} {rest past : List Nat} {c : Nat} {pieces : List Str} {known : List (Nat × Option Nat)} {h' : Heap} {k : Nat} (hc : c = 37) (h1 : x = past ++ c :: rest)
    (h3 : pieces.reverse = (out37 past).map (fun c => (⟨#[c]⟩ : Str))) (h4 : ∀ c a, List.lookup c known = some a → a = an37 c) (h6 : ∀ b o, s.heap.get? b = some o → h'.get? b = some o) :
    Tr37 x s rest (pieces, (out37 past).length, true, known, false) { s with heap := h', toks := k } := by
  have e : out37 (past ++ [c]) = out37 past := by
    unfold out37
    rw [List.filter_append, List.filter_cons_of_neg (by simpa using hc), List.filter_nil, List.append_nil]
  refine ⟨past ++ [c], pieces, known, h', k, ?_, ?_, ?_, h4, rfl, h6⟩
  · rw [h1, List.append_assoc] <;> rfl
  · rw [e]
  · rw [e]; exact h3
theorem meets_tr37 {prog : Program} {w : World} (x : List Nat) (t : Tok) (d : Addr) (hd : (d == sysModules) = false) (hz : x.length ≤ 16000000) (ha : ∀ c ∈ x, c < 128) : MeetsIn prog w («str.translate» ⟨[.str (SX.S x) t, .ref d], []⟩) (fun A R s =>
    A.handled = none ∧ (∃ f, s.heap.MapOf (mixKind prog w) d f ∧ Tl37 (prog := prog) (w := w) f) ∧ ∀ (v : Value) (h' : Heap) (k : Nat), (∀ b o, s.heap.get? b = some o → h'.get? b = some o) → (∃ t', v = .str (SX.S (out37 x)) t') → R (.ok (.ret v)) { s with heap := h', toks := k }) := by
  refine .of_wp fun A R s h => ?_
  obtain ⟨hh, ⟨f, hm, hk⟩, h⟩ := h
  have hh1 : A.in1.handled = none := hh
  show wpAny _ _ (if ((SX.S x).length == 0) = true then (do rule "str.translate.empty"; ret (.str (SX.S x) t)) else (do
    let st ← forIn (SX.S x).cps (([], 0, (SX.S x).cps.all fun y => decide (y < 128), [], false) : List Str × Nat × Bool × List (Nat × Option Nat) × Bool) _
    _)) _ _ s
  by_cases h0 : ((SX.S x).length == 0) = true
  · rw [if_pos h0]
    have hx : x = [] := by
      rw [beq_iff_eq, SX.S_len] at h0
      exact List.eq_nil_of_length_eq_zero h0
    subst hx
    exact wpAny_bind (wpAny_rule (wpAny_pure ⟨_, rfl, h _ s.heap s.toks (fun _ _ e => e) ⟨t, rfl⟩⟩))
  · rw [if_neg h0]
    have hfast : ((SX.S x).cps.all fun y => decide (y < 128)) = true := by
      rw [← Array.all_toList]
      show (x.toArray.toList.all _) = true
      rw [List.toList_toArray, List.all_eq_true]
      exact fun c hc => decide_eq_true (ha c hc)
    rw [hfast]
    refine wpAny_bind (MeetsSeq2.wpAny_forIn_array _ (Tr37 x s) _ (fun c rest st s' hI => ?turn) (fun st s' hI => ?fin) (SX.S x).cps ([], 0, true, [], false) ?h0)
    case h0 =>
      refine ⟨[], [], [], s.heap, s.toks, ?_, rfl, rfl, fun c a z => ?_, rfl, fun _ _ e => e⟩
      · show x = [] ++ x.toArray.toList
        rw [List.toList_toArray, List.nil_append]
      · rw [List.lookup_nil] at z
        cases z
    case turn =>
      obtain ⟨past, pieces, known, h', k, e1, e2, e3, e4, e5, e6⟩ := hI
      subst e2
      subst e5
      have hpl : (out37 past).length ≤ 16000000 := by
        have q := congrArg List.length e1
        rw [List.length_append] at q
        exact Nat.le_trans (List.length_filter_le _ _) (by omega)
      have hm' : ({ s with heap := h', toks := k } : Shared).heap.MapOf (mixKind prog w) d f := mapOfK hm e6
      show wpAny _ _ (if tooLong (out37 past).length = true then _ else (if true = true then _ else _)) _ _ _
      rw [show tooLong (out37 past).length = false from PyProof.Rows.short24 (by omega), if_neg Bool.false_ne_true]
      rw [if_pos rfl]
      cases hl : List.lookup c known with
      | some a =>
        have ha2 := e4 c a hl
        subst ha2
        refine wpAny_bind (wpAny_pure ?_)
        by_cases hc : c = 37
        · have e : an37 c = none := if_pos hc
          rw [e]
          exact wpAny_pure (Tr37.drop hc e1 e3 e4 e6)
        · have e : an37 c = some c := if_neg hc
          rw [e]
          exact wpAny_pure (Tr37.keep hc e1 e3 e4 e6)
      | none =>
        have new : ∀ b, b = an37 c → ∀ c' a, List.lookup c' ((c, b) :: known) = some a → a = an37 c' := fun b hb c' a z => by
          rcases look_new z with ⟨q1, q2⟩ | q
          · rw [q2, hb, q1]
          · exact e4 c' a q
        refine wpAny_bind (tl37 hh1 hd hm' hk (fun hw h2 k2 k3 => ?_) (fun hw h2 k2 k3 => ?_))
        · have e : an37 c = none := if_pos hw
          refine wpAny_bind (wpAny_pure ?_)
          refine wpAny_pure ?_
          exact Tr37.drop (known := (c, none) :: known) hw e1 e3 (new none e.symm) (fun b o z => k3 b o (e6 b o z))
        · have e : an37 c = some c := if_neg hw
          refine wpAny_bind (wpAny_pure ?_)
          refine wpAny_pure ?_
          exact Tr37.keep (known := (c, some c) :: known) hw e1 e3 (new (some c) e.symm) (fun b o z => k3 b o (e6 b o z))
    case fin =>
      obtain ⟨past, pieces, known, h', k, e1, e2, e3, e4, e5, e6⟩ := hI
      subst e2
      subst e5
      have ex : x = past := by rw [e1, List.append_nil]
      have hl : (out37 past).length ≤ 16000000 := by
        rw [← ex]
        exact Nat.le_trans (List.length_filter_le _ _) hz
      show wpAny _ _ (if tooLong (out37 past).length = true then _ else retStr { cps := List.foldl (fun acc (p : Str) => acc ++ p.cps) #[] pieces.reverse }) _ _ _
      rw [show tooLong (out37 past).length = false from PyProof.Rows.short24 (by omega), if_neg Bool.false_ne_true, e3, pieces37, ← ex]
      have ev : (⟨#[] ++ (out37 x).toArray⟩ : Str) = SX.S (out37 x) := by
        rw [Array.empty_append] <;> rfl
      rw [ev]
      exact wpAny_bind (wpAny_mkStr (wpAny_pure ⟨_, rfl, h _ h' _ e6 ⟨_, rfl⟩⟩) (by rw [SX.S_len, sizeLine_eq, ex]; omega))
def rTr37 : V → List V → Hp → VK → Prop := fun x xs H Q => ∃ (t : Str) (d : Addr), x = .str t ∧ xs = [.ref d] ∧ H d = some (.dK [(Sum.inl 37, .non)]) ∧ (∀ c ∈ t.cps.toList, c < 128) ∧ t.length ≤ 16000000 ∧ Q (.str (SX.S (out37 t.cps.toList))) H
theorem mt_tr37 {X : Cx} (hc : X.calm = true) : MtR X "str.translate" rTr37 := by
  intro pins s σ H x xs v us Q I rx rs h
  obtain ⟨a, d, rfl, rfl, hd, ha, h3, h⟩ := h
  obtain ⟨t, rfl⟩ := rx
  obtain ⟨_, low, vs, kv, dd⟩ := dk_of I.hok hd
  cases rs with
  | cons r1 rs =>
    cases rs
    cases r1
    have ea : SX.S a.cps.toList = a := SX.S_tl a
    have hm := dd.mapOf
    have tl : Tl37 (prog := X.prog) (w := X.w) (valueAt vs) := by
      cases kv with
      | cons p r =>
        cases r
        rename_i b
        obtain ⟨k1, v1⟩ := b
        obtain ⟨e1, e2⟩ := p
        have e1 : Sum.inl 37 = k1 := e1
        have e2 : v1 = Value.none := e2
        subst e1 e2
        intro c
        unfold valueAt
        by_cases hc : c = 37
        · subst hc
          rfl
        · rw [if_neg hc]
          have hne : ¬ ((Sum.inl 37 : Key) = Sum.inl (c : Int)) := fun z => hc (by have := Sum.inl.inj z; omega)
          simp [List.find?, hne]
    rw [← ea]
    refine call_meetsIn F.slot_str_translate (typeIs_str _ _ _) F.entry_str_translate (F.args_str_translate_2 _ _) (meets_tr37 a.cps.toList t d low (by rw [Array.length_toList]; exact h3) ha) ⟨I.ok.hd hc, ⟨_, hm, tl⟩, ?_⟩
    intro v h' k hk ⟨t', e⟩
    subst e
    exact ⟨.str _, H, I.kept (t' := k) hk, ⟨t', rfl⟩, h⟩
end

def topS (i : Nat) : Stmt := PySem.Challenge.pw_oathledger_k41_words_of_commands.main.body.getD i (.Pass ⟨0, 0, 0, 0⟩)
abbrev s_is_printable : Stmt := topS 1
theorem sc_is_printable : FnScope ["value"] ["value"] (defScope s_is_printable) := ⟨rfl, rfl, rfl, by decide +kernel, rfl, by decide +kernel, by decide +kernel⟩
abbrev s_is_short : Stmt := topS 2
theorem sc_is_short : FnScope ["value", "most"] ["value", "most"] (defScope s_is_short) := ⟨rfl, rfl, rfl, by decide +kernel, rfl, by decide +kernel, by decide +kernel⟩
abbrev s_is_decimal : Stmt := topS 3
theorem sc_is_decimal : FnScope ["word"] ["word"] (defScope s_is_decimal) := ⟨rfl, rfl, rfl, by decide +kernel, rfl, by decide +kernel, by decide +kernel⟩
abbrev s_is_name : Stmt := topS 11
theorem sc_is_name : FnScope ["word"] ["word"] (defScope s_is_name) := ⟨rfl, rfl, rfl, by decide +kernel, rfl, by decide +kernel, by decide +kernel⟩
abbrev s_is_key : Stmt := topS 12
theorem sc_is_key : FnScope ["word"] ["word"] (defScope s_is_key) := ⟨rfl, rfl, rfl, by decide +kernel, rfl, by decide +kernel, by decide +kernel⟩
abbrev s_is_value : Stmt := topS 13
theorem sc_is_value : FnScope ["word"] ["word"] (defScope s_is_value) := ⟨rfl, rfl, rfl, by decide +kernel, rfl, by decide +kernel, by decide +kernel⟩
abbrev s_is_amount : Stmt := topS 14
theorem sc_is_amount : FnScope ["word"] ["word"] (defScope s_is_amount) := ⟨rfl, rfl, rfl, by decide +kernel, rfl, by decide +kernel, by decide +kernel⟩
abbrev s_consists_of : Stmt := topS 15
theorem sc_consists_of : FnScope ["word", "characters", "most", "character"] ["word", "characters", "most"] (defScope s_consists_of) := ⟨rfl, rfl, rfl, by decide +kernel, rfl, by decide +kernel, by decide +kernel⟩
abbrev s__law_cell : Stmt := topS 17
theorem sc__law_cell : FnScope ["script", "k"] ["script", "k"] (defScope s__law_cell) := ⟨rfl, rfl, rfl, by decide +kernel, rfl, by decide +kernel, by decide +kernel⟩
abbrev s__law_word : Stmt := topS 18
theorem sc__law_word : FnScope ["size", "chars", "seed", "step", "word", "rest", "k"] ["size", "chars", "seed", "step"] (defScope s__law_word) := ⟨rfl, rfl, rfl, by decide +kernel, rfl, by decide +kernel, by decide +kernel⟩
abbrev s__law_printable : Stmt := topS 19
theorem sc__law_printable : FnScope ["chars"] [] (defScope s__law_printable) := ⟨rfl, rfl, rfl, by decide +kernel, rfl, by decide +kernel, by decide +kernel⟩
abbrev s__law_all_in : Stmt := topS 20
theorem sc__law_all_in : FnScope ["word", "chars", "char"] ["word", "chars"] (defScope s__law_all_in) := ⟨rfl, rfl, rfl, by decide +kernel, rfl, by decide +kernel, by decide +kernel⟩
abbrev s__law_built : Stmt := topS 21
theorem sc__law_built : FnScope ["script", "choice", "size", "letters", "keys", "odd", "chars", "word", "at"] ["script"] (defScope s__law_built) := ⟨rfl, rfl, rfl, by decide +kernel, rfl, by decide +kernel, by decide +kernel⟩
abbrev s__law_due : Stmt := topS 22
theorem sc__law_due : FnScope ["word", "size", "letters", "name", "key", "value", "amount"] ["word"] (defScope s__law_due) := ⟨rfl, rfl, rfl, by decide +kernel, rfl, by decide +kernel, by decide +kernel⟩
abbrev s_law : Stmt := topS 23
theorem sc_law : FnScope ["script", "word", "due", "actual", "k"] ["script"] (defScope s_law) := ⟨rfl, rfl, rfl, by decide +kernel, rfl, by decide +kernel, by decide +kernel⟩
structure Txt (K : PySem.W.Frag) (mg : Str → Option Value) : Prop where
  d_is_printable : DefOk K mg "is_printable" s_is_printable ["value"]
  d_is_short : DefOk K mg "is_short" s_is_short ["value", "most"]
  d_is_decimal : DefOk K mg "is_decimal" s_is_decimal ["word"]
  d_is_name : DefOk K mg "is_name" s_is_name ["word"]
  d_is_key : DefOk K mg "is_key" s_is_key ["word"]
  d_is_value : DefOk K mg "is_value" s_is_value ["word"]
  d_is_amount : DefOk K mg "is_amount" s_is_amount ["word"]
  d_consists_of : DefOk K mg "consists_of" s_consists_of ["word", "characters", "most"]
  d__law_cell : DefOk K mg "_law_cell" s__law_cell ["script", "k"]
  d__law_word : DefOk K mg "_law_word" s__law_word ["size", "chars", "seed", "step"]
  d__law_printable : DefOk K mg "_law_printable" s__law_printable []
  d__law_all_in : DefOk K mg "_law_all_in" s__law_all_in ["word", "chars"]
  d__law_built : DefOk K mg "_law_built" s__law_built ["script"]
  d__law_due : DefOk K mg "_law_due" s__law_due ["word"]
  d_law : DefOk K mg "law" s_law ["script"]
  c_KEY_CHARACTERS : ∃ u, mg "KEY_CHARACTERS" = some u ∧ RelV (.str "abcdefghijklmnopqrstuvwxyz.0123456789") u
  c_LETTERS : ∃ u, mg "LETTERS" = some u ∧ RelV (.str "abcdefghijklmnopqrstuvwxyz") u
  c_MOST_AMOUNT : ∃ u, mg "MOST_AMOUNT" = some u ∧ RelV (.int 12) u
  c_MOST_KEY : ∃ u, mg "MOST_KEY" = some u ∧ RelV (.int 20) u
  c_MOST_NAME : ∃ u, mg "MOST_NAME" = some u ∧ RelV (.int 12) u
  c_MOST_VALUE : ∃ u, mg "MOST_VALUE" = some u ∧ RelV (.int 40) u
  z_all : mg "all" = none
  z_int : mg "int" = none
  z_isinstance : mg "isinstance" = none
  z_len : mg "len" = none
  z_range : mg "range" = none
  z_str : mg "str" = none
set_option pp.maxSteps 150
/-! ### the draws of a script -/
def Dr (H : Hp) (D A : Addr) : Prop := D ≠ A ∧ ∃ (ds : List Int) (n : Nat), H D = some (.lst (ds.map V.int)) ∧ H A = some (.lst [.int n]) ∧ (∀ d ∈ ds, 0 ≤ d ∧ d < 1000) ∧ ds.length ≤ 2520
/-- all that was tracked but A is as it was -/
def Mod (A : Addr) (H H' : Hp) : Prop := ∀ b o, b ≠ A → H b = some o → H' b = some o
theorem Mod.refl {A : Addr} {H : Hp} : Mod A H H := fun _ _ _ h => h
theorem Mod.trans {A : Addr} {H H1 H2 : Hp} (a : Mod A H H1) (b : Mod A H1 H2) : Mod A H H2 := fun c o n h => b c o n (a c o n h)
theorem Same.mod {A : Addr} {H H' : Hp} (s : Same H H') : Mod A H H' := fun b o _ h => s b o h
theorem Mod.new {A p : Addr} {o : HO} {H H' : Hp} (s : Mod A H H') (h : H' p = none) : Mod A H (upd H' p o) := fun b u n e => by
  rw [upd_ne (ne_of_none (s b u n e) h)]
  exact s b u n e
theorem Dr.new {D A p : Addr} {o : HO} {H : Hp} (d : Dr H D A) (h : H p = none) : Dr (upd H p o) D A := by
  obtain ⟨ne, ds, n, h1, h2, h3⟩ := d
  exact ⟨ne, ds, n, by rw [upd_ne (ne_of_none h1 h)]; exact h1, by rw [upd_ne (ne_of_none h2 h)]; exact h2, h3⟩
theorem Dr.same {D A : Addr} {H H' : Hp} (d : Dr H D A) (s : Same H H') : Dr H' D A := by
  obtain ⟨ne, ds, n, h1, h2, h3⟩ := d
  exact ⟨ne, ds, n, s _ _ h1, s _ _ h2, h3⟩
/-- an object that is neither D nor A is changed -/
theorem Dr.put {D A p : Addr} {o : HO} {H : Hp} (d : Dr H D A) (h1 : p ≠ D) (h2 : p ≠ A) : Dr (upd H p o) D A := by
  obtain ⟨ne, ds, n, e1, e2, h3⟩ := d
  exact ⟨ne, ds, n, by rw [upd_ne h1.symm]; exact e1, by rw [upd_ne h2.symm]; exact e2, h3⟩
theorem Dr.freshA {D A p : Addr} {H : Hp} (d : Dr H D A) (h : H p = none) : p ≠ A := by
  obtain ⟨_, _, _, _, e, _⟩ := d
  exact (ne_of_none e h).symm
theorem Dr.freshD {D A p : Addr} {H : Hp} (d : Dr H D A) (h : H p = none) : p ≠ D := by
  obtain ⟨_, _, _, e, _⟩ := d
  exact (ne_of_none e h).symm
theorem Mod.free {A p : Addr} {H H' : Hp} (s : Mod A H H') (d : ∃ o, H' A = some o) (h : H' p = none) : H p = none := by
  cases e : H p with
  | none => rfl
  | some o =>
    by_cases hp : p = A
    · subst hp
      obtain ⟨o', e'⟩ := d
      rw [e'] at h; cases h
    · rw [s p o hp e] at h; cases h
theorem Dr.A_in {D A : Addr} {H : Hp} (d : Dr H D A) : ∃ o, H A = some o := by
  obtain ⟨_, _, _, _, e, _⟩ := d
  exact ⟨_, e⟩
theorem rng_app {ds : List Int} {x : Int} (h : ∀ d ∈ ds, 0 ≤ d ∧ d < 1000) (h0 : 0 ≤ x) (h1 : x < 1000) : ∀ d ∈ ds ++ [x], 0 ≤ d ∧ d < 1000 := fun d hd => by
  rcases List.mem_append.mp hd with hd | hd
  · exact h d hd
  · rw [List.mem_singleton.mp hd]; exact ⟨h0, h1⟩

/-! ### drawn numbers and strings -/
def prC (c : Nat) : Bool := decide (32 ≤ c) && decide (c ≤ 126) && decide (c ≠ 37)
def isPr (z : Str) : Bool := z.cps.toList.all prC
theorem app_tl (a b : Str) : (a ++ b).cps.toList = a.cps.toList ++ b.cps.toList := by
  show (a.cps ++ b.cps).toList = _
  rw [Array.toList_append]
theorem len_tl (z : Str) : z.cps.toList.length = z.length := Array.length_toList
theorem isPr_app (a b : Str) : isPr (a ++ b) = (isPr a && isPr b) := by
  unfold isPr
  rw [app_tl, List.all_append]

def NoStr (K : PySem.W.Frag) (H : Hp) (v : V) : Prop := ∃ T, TyX K H v (.type T) ∧ kitB T "str" = some false
def spPrint (K : PySem.W.Frag) : Sp := fun vs H Q _ => ∃ (v : V), vs = [v] ∧ ((∃ z : Str, v = .str z ∧ z.length ≤ 16000000 ∧ ∀ H', Same H H' → Q (.bl (isPr z)) H') ∨ (NoStr K H v ∧ Q (.bl false) H))
theorem print128 : ∀ c : Nat, c < 128 → (Unicode.isPrintable c = true ↔ (32 ≤ c ∧ c ≤ 126)) := by
  intro c hc
  have h : ∀ c : Fin 128, (Unicode.isPrintable c.val = true ↔ (32 ≤ c.val ∧ c.val ≤ 126)) := by decide +kernel
  exact h ⟨c, hc⟩
theorem asc_list {z : Str} : Txt.isascii z = true ↔ ∀ c ∈ z.cps.toList, c < 128 := by
  unfold Txt.isascii
  rw [← Array.all_toList, List.all_eq_true]
  simp
theorem pri_list {z : Str} : Txt.isprintable z = true ↔ ∀ c ∈ z.cps.toList, Unicode.isPrintable c = true := by
  unfold Txt.isprintable
  rw [← Array.all_toList, List.all_eq_true]
theorem isPr_iff {z : Str} : isPr z = true ↔ ∀ c ∈ z.cps.toList, 32 ≤ c ∧ c ≤ 126 ∧ c ≠ 37 := by
  unfold isPr
  rw [List.all_eq_true]
  simp [prC, and_assoc]
theorem out37_len {l : List Nat} : (out37 l).length = l.length ↔ ∀ c ∈ l, c ≠ 37 := by
  unfold out37
  rw [List.length_filter_eq_length_iff]
  simp
section
variable {P : Program} {w : World} {K : PySem.W.Frag} {mg : Str → Option Value} {base : Heap}
theorem c_is_printable (T : Txt K mg) : Cal P w K mg base 1 "is_printable" (spPrint K) [] := by
  refine cal T.d_is_printable sc_is_printable (fun vs H Q E h => ?_) (fun f cdv A outer s H vs Q E hr h => ?_)
  · obtain ⟨v, rfl, _⟩ := h; rfl
  obtain ⟨v, rfl, h⟩ := h
  refine ⟨_, (pss_cons (ps_if (PW.pt (pw_or (pt_not (pt_val (pe_callB (kisi (K := K)) (by rfl) T.z_isinstance (by decide +kernel) (pa_cons (pv 0) (pa_cons (pe_bltn (v := .ty "str") (by rfl) T.z_str (by decide +kernel) rfl) pa_nil))))) (pw_or (pt_not (pt_val (pe_bm0 PySem.F.plainAttrs_str PySem.F.slot_str_isascii PySem.F.type_str_isascii mt_isascii (pv 0)))) (pw_or1 (pt_not (pt_val (pe_bm0 PySem.F.plainAttrs_str PySem.F.slot_str_isprintable PySem.F.type_str_isprintable mt_isprintable (pv 0)))))))) (pss_one (ps_ret pe_bl)) pss_nil)
      (pss_one (ps_ret (pe_cmpR op_eq (pe_callB call_len_str (by rfl) T.z_len (by decide +kernel) (pa_cons (pe_bm PySem.F.plainAttrs_str PySem.F.slot_str_translate PySem.F.type_str_translate (mt_tr37 rfl) (pv 0) (pa_cons (pe_disp (pps_cons pe_int pe_non pps_nil) rfl rfl (by intro z; cases z) (by decide)) pa_nil)) pa_nil)) (pe_callB call_len_str (by rfl) T.z_len (by decide +kernel) (pa_cons (pv 0) pa_nil)) (nomark _))))), ?_⟩
  rcases h with ⟨z, rfl, hz, q⟩ | ⟨⟨T, ty, hk⟩, q⟩
  · walk_at "rds"
    walk_at "isi"
    walk_at "rds"
    refine ⟨rfl, _, rfl, rfl, trivial, ?_⟩
    walk_at "rds"
    cases ha : Txt.isascii z with
    | false =>
      have e : isPr z = false := by
        cases e : isPr z with
        | false => rfl
        | true =>
          have := asc_list.mpr (fun c hc => by have := isPr_iff.mp e c hc; omega)
          rw [ha] at this; cases this
      rw [e] at q
      walk_at "rds"
      exact q H (Same.refl H)
    | true =>
      have ha := asc_list.mp ha
      walk_at "rds"
      refine ⟨rfl, _, rfl, rfl, trivial, ?_⟩
      walk_at "rds"
      cases hp : Txt.isprintable z with
      | false =>
        have e : isPr z = false := by
          cases e : isPr z with
          | false => rfl
          | true =>
            have := pri_list.mpr (fun c hc => by have := isPr_iff.mp e c hc; exact (print128 c (by omega)).mpr ⟨by omega, by omega⟩)
            rw [hp] at this; cases this
        rw [e] at q
        walk_at "rds"
        exact q H (Same.refl H)
      | true =>
        have hp := pri_list.mp hp
        walk_at "rds"
        refine ⟨rfl, fun p np => ?_⟩
        refine ⟨upd_same, [(Sum.inl 37, .non)], rfl, by decide, ?_⟩
        refine ⟨z, p, rfl, rfl, upd_same, ha, hz, ?_⟩
        have l37 : (SX.S (out37 z.cps.toList)).length ≤ 16000000 := by
          rw [SX.S_len]
          exact Nat.le_trans (List.length_filter_le _ _) (by rw [len_tl]; exact hz)
        walk_at "rds"
        have e : decide (V.int ((SX.S (out37 z.cps.toList)).length : Int) = V.int (z.length : Int)) = isPr z := by
          rw [SX.S_len]
          have hl := @out37_len z.cps.toList
          rw [len_tl] at hl
          cases e : isPr z with
          | true =>
            refine decide_eq_true ?_
            rw [hl.mpr (fun c hc => (isPr_iff.mp e c hc).2.2)]
          | false =>
            refine decide_eq_false fun z' => ?_
            have h1 := hl.mp (Int.ofNat.inj (V.int.inj z'))
            have : isPr z = true := isPr_iff.mpr (fun c hc => ⟨((print128 c (ha c hc)).mp (hp c hc)).1, ((print128 c (ha c hc)).mp (hp c hc)).2, h1 c hc⟩)
            rw [e] at this; cases this
        rw [← e] at q
        exact q _ (same_mut (same_upd np) np)
  · walk_at "rds"
    refine ⟨_, .ty _, _, _, false, rfl, .ty _, ty, kit_ty hk, ?_⟩
    walk_at "rds"
    exact q
end

/-! ### words: is_decimal, is_name, is_key, is_value, is_amount -/
def dg (c : Nat) : Bool := decide (48 ≤ c) && decide (c ≤ 57)
/-- a number in decimal digits, by its codes -/
def dcL (l : List Nat) : Bool := !l.isEmpty && l.all dg && (l == [48] || l.head? != some 48)
def inL (l ch : List Nat) : Bool := l.all fun c => decide (c ∈ ch)
theorem digit128 : ∀ c : Nat, c < 128 → Unicode.isDigit c = dg c := by
  intro c hc
  have h : ∀ c : Fin 128, Unicode.isDigit c.val = dg c.val := by decide +kernel
  exact h ⟨c, hc⟩
theorem dg_lt {c : Nat} (h : dg c = true) : 48 ≤ c ∧ c ≤ 57 := by
  unfold dg at h
  rw [Bool.and_eq_true] at h
  exact ⟨of_decide_eq_true h.1, of_decide_eq_true h.2⟩
theorem all_digits {z : Str} (ha : Txt.isascii z = true) : Txt.isdigit z = (!z.cps.toList.isEmpty && z.cps.toList.all dg) := by
  unfold Txt.isdigit
  have h := asc_list.mp ha
  rw [← Array.all_toList]
  have e1 : decide (z.length > 0) = !z.cps.toList.isEmpty := by
    rw [← len_tl]
    cases z.cps.toList <;> simp
  rw [e1]
  congr 1
  revert h
  generalize z.cps.toList = l
  intro h
  induction l with
  | nil => rfl
  | cons c r ih =>
    rw [List.all_cons, List.all_cons, digit128 c (h c List.mem_cons_self), ih (fun d hd => h d (List.mem_cons_of_mem _ hd))]
theorem dcL_asc {z : Str} (h : Txt.isascii z = false) : dcL z.cps.toList = false := by
  cases e : dcL z.cps.toList with
  | false => rfl
  | true =>
    unfold dcL at e
    rw [Bool.and_eq_true, Bool.and_eq_true] at e
    have := asc_list.mpr (fun c hc => by have := dg_lt (List.all_eq_true.mp e.1.2 c hc); omega)
    rw [h] at this; cases this
theorem str_eq_l {a b : Str} : a = b ↔ a.cps.toList = b.cps.toList := by
  constructor
  · rintro rfl; rfl
  · intro h
    cases a; cases b
    simp only [Str.mk.injEq]
    exact Array.toList_inj.mp h
def spStrB (K : PySem.W.Frag) (f : List Nat → Bool) : Sp := fun vs H Q _ => ∃ (z : Str), vs = [.str z] ∧ z.length ≤ 10000 ∧ ∀ H', Same H H' → Q (.bl (f z.cps.toList)) H'
section
variable {P : Program} {w : World} {K : PySem.W.Frag} {mg : Str → Option Value} {base : Heap}
theorem c_is_decimal (T : Txt K mg) : Cal P w K mg base 1 "is_decimal" (spStrB K dcL) [] := by
  refine cal T.d_is_decimal sc_is_decimal (fun vs H Q E h => ?_) (fun f cdv A' outer s H vs Q E hr h => ?_)
  · obtain ⟨z, rfl, _⟩ := h; rfl
  obtain ⟨z, rfl, hz, q⟩ := h
  refine ⟨_, (pss_one (ps_ret (pe_and (pe_bm0 PySem.F.plainAttrs_str PySem.F.slot_str_isascii PySem.F.type_str_isascii mt_isascii (pv 0)) (pe_and (pe_bm0 PySem.F.plainAttrs_str PySem.F.slot_str_isdigit PySem.F.type_str_isdigit mt_isdigit (pv 0)) (pe_one (pe_or (pe_cmpR op_eq (pv 0) pe_str (nomark _)) (pe_one (pe_cmpR op_ne (pe_ix ix_str (pv 0) pe_int (fun _ _ => rfl)) pe_str (nomark _))))))))), ?_⟩
  have q := q H (Same.refl H)
  walk_at "rds"
  refine ⟨rfl, _, rfl, rfl, trivial, ?_⟩
  walk_at "rds"
  cases ha : Txt.isascii z with
  | false =>
    rw [dcL_asc ha] at q
    refine ifF rfl ?_
    exact q
  | true =>
    refine ifT rfl ?_
    walk_at "rds"
    refine ⟨rfl, _, rfl, rfl, trivial, ?_⟩
    walk_at "rds"
    rw [all_digits ha]
    cases hd : (!z.cps.toList.isEmpty && z.cps.toList.all dg) with
    | false =>
      have e : dcL z.cps.toList = false := by unfold dcL; rw [hd]; rfl
      rw [e] at q
      refine ifF rfl ?_
      exact q
    | true =>
      have e : dcL z.cps.toList = (z.cps.toList == [48] || z.cps.toList.head? != some 48) := by unfold dcL; rw [hd]; rfl
      rw [e] at q
      refine ifT rfl ?_
      walk_at "rds"
      have l0 : (Str.ofString "0").cps.toList = [48] := by decide
      refine ite2 (fun e0 => ?_) (fun e0 => ?_)
      · have e0 : z = Str.ofString "0" := V.str.inj (of_decide_eq_true e0)
        rw [e0, l0] at q
        exact q
      · have e0 : ¬ z = Str.ofString "0" := fun h => e0 (decide_eq_true (by rw [h]))
        have e1 : z.cps.toList ≠ [48] := fun h => e0 (str_eq_l.mpr (h.trans l0.symm))
        obtain ⟨c, r, hl⟩ : ∃ c r, z.cps.toList = c :: r := by
          cases hl : z.cps.toList with
          | nil => rw [hl] at hd; simp at hd
          | cons c r => exact ⟨c, r, rfl⟩
        have h0 : atI z.cps.toList 0 = some c := atI_nat (j := 0) (by rw [hl]; rfl)
        walk_at "rds"
        refine ⟨z, _, c, rfl, rfl, sz1000 (by omega), h0, ?_⟩
        walk_at "rds"
        have e2 : (z.cps.toList == [48]) = false := by simpa using e1
        rw [e2, hl, Bool.false_or] at q
        have e3 : (!decide (V.str ⟨#[c]⟩ = V.str (Str.ofString "0"))) = ((c :: r).head? != some 48) := by
          by_cases h : c = 48
          · subst h; rfl
          · rw [decide_eq_false (fun z => h (by
              have := congrArg (fun v => match v with | V.str s => s.cps.toList | _ => []) z
              have : [c] = [48] := this
              simpa using this))]
            simp [h]
        rw [← e3] at q
        exact q
def spCons (K : PySem.W.Frag) : Sp := fun vs H Q _ => ∃ (z ch : Str) (m : Int), vs = [.str z, .str ch, .int m] ∧ z.length ≤ 10000 ∧ ∀ H', Same H H' → Q (.bl (decide (1 ≤ z.cps.toList.length) && decide ((z.cps.toList.length : Int) ≤ m) && inL z.cps.toList ch.cps.toList)) H'
theorem c_consists_of (T : Txt K mg) : Cal P w K mg base 1 "consists_of" (spCons K) [] := by
  refine cal T.d_consists_of sc_consists_of (fun vs H Q E h => ?_) (fun f cdv A' outer s H vs Q E hr h => ?_)
  · obtain ⟨z, ch, m, rfl, _⟩ := h; rfl
  obtain ⟨z, ch, m, rfl, hz, q⟩ := h
  refine ⟨_, (pss_one (ps_ret (pe_and (pe_chain op_le op_le pe_int (pe_callB call_len_str (by rfl) T.z_len (by decide +kernel) (pa_cons (pv 0) pa_nil)) (pv 2)) (pe_one (pe_callB (cr_all rfl) (by rfl) T.z_all (by decide +kernel) (pa_cons (pe_lc (own := [("character", 3)]) (g := gName 3) (by rfl) sc_consists_of.nd (pi_str (pv 0)) (blkOk_by (own := [("character", 3)]) (N := ["word", "characters", "most", "character"]) (sc := defScope s_consists_of) (by decide +kernel)) (fun _ _ _ _ _ => pg_name (i := 3) sc_consists_of.nd rfl (Or.inl rfl)) (fun _ _ _ _ _ => pts_nil) (fun _ _ _ _ _ => (pe_cmpR op_inS (pv 3) (pv 1) (by rfl)))) pa_nil)))))), ?_⟩
  rw [len_tl] at q
  walk_at "rds"
  refine ite2 (fun e => ?_) (fun e => ?_)
  · have e : (1 : Int) ≤ (z.length : Int) := of_decide_eq_true e
    rw [decide_eq_true (show 1 ≤ z.length by omega), Bool.true_and] at q
    walk_at "rds"
    cases e2 : decide ((z.length : Int) ≤ m) with
    | false =>
      rw [e2] at q
      refine ifF rfl ?_
      exact q H (Same.refl H)
    | true =>
      rw [e2] at q
      refine ifT rfl ?_
      walk_at "rds"
      intro D hD
      refine lc_it walk_str (Pv := fun i H' => Same H H' ∧ H' D = some (.lst (((z.cps.toList.take i).map (fun c => decide (c ∈ ch.cps.toList))).map V.bl))) ⟨same_upd hD, upd_same⟩ (fun _ _ _ _ => trivial) (fun i x H6 H7 hi hp hy => ?_) (fun H6 hp => ?_)
      · obtain ⟨s6, hD6⟩ := hp
        obtain ⟨rfl, c, gc, rfl⟩ := hy
        have gc : z.cps.toList[i]? = some c := by rw [Array.getElem?_toList]; exact gc
        refine ⟨rfl, tyes ?_⟩
        walk_at "rds"
        refine ⟨_, hD6, by rw [List.length_map, List.length_map, List.length_take, len_tl]; exact sz1000' (by omega), same_mut s6 hD, ?_⟩
        rw [upd_same, List.take_add_one, gc, Option.toList_some, List.map_append, List.map_append]
        rfl
      · obtain ⟨s6, hD6⟩ := hp
        rw [List.take_of_length_le (by rw [Array.length_toList]; exact Nat.le_refl _)] at hD6
        walk_at "rds"
        refine ⟨D, _, rfl, sq hD6, ?_⟩
        have e3 : ((z.cps.toList.map (fun c => decide (c ∈ ch.cps.toList))).all id) = inL z.cps.toList ch.cps.toList := by
          unfold inL; rw [List.all_map]; rfl
        rw [e3]
        have q := q H6 s6
        rw [Bool.true_and] at q
        exact q
  · have e : ¬ (1 : Int) ≤ (z.length : Int) := fun h => e (decide_eq_true h)
    rw [decide_eq_false (show ¬ 1 ≤ z.length by omega)] at q
    refine ⟨false, rfl, ?_⟩
    exact q H (Same.refl H)
def lettersL : List Nat := (Str.ofString "abcdefghijklmnopqrstuvwxyz").cps.toList
def keysL : List Nat := (Str.ofString "abcdefghijklmnopqrstuvwxyz.0123456789").cps.toList
def nmL (l : List Nat) : Bool := decide (1 ≤ l.length) && decide ((l.length : Int) ≤ 12) && inL l lettersL
def kyL (l : List Nat) : Bool := decide (1 ≤ l.length) && decide ((l.length : Int) ≤ 20) && inL l keysL
def amL (l : List Nat) : Bool := decide ((l.length : Int) ≤ 12) && dcL l
def vlL (l : List Nat) : Bool := !l.isEmpty && !decide (32 ∈ l) && !decide (59 ∈ l) && (l.all prC && decide ((l.length : Int) ≤ 40))
theorem c_is_name (T : Txt K mg) : Cal P w K mg base 2 "is_name" (spStrB K nmL) [] := by
  have c_consists_of := c_consists_of (P := P) (w := w) (base := base) T
  refine cal T.d_is_name sc_is_name (fun vs H Q E h => ?_) (fun f cdv A' outer s H vs Q E hr h => ?_)
  · obtain ⟨z, rfl, _⟩ := h; rfl
  obtain ⟨z, rfl, hz, q⟩ := h
  refine ⟨_, (pss_one (ps_ret (pe_c c_consists_of hr (by decide) (by rfl) (pa_cons (pv 0) (pa_cons (pe_gc (by rfl) T.c_LETTERS) (pa_cons (pe_gc (by rfl) T.c_MOST_NAME) pa_nil)))))), ?_⟩
  walk_at "rds"
  exact ⟨z, _, 12, rfl, hz, fun H' s => q H' s⟩
theorem c_is_key (T : Txt K mg) : Cal P w K mg base 2 "is_key" (spStrB K kyL) [] := by
  have c_consists_of := c_consists_of (P := P) (w := w) (base := base) T
  refine cal T.d_is_key sc_is_key (fun vs H Q E h => ?_) (fun f cdv A' outer s H vs Q E hr h => ?_)
  · obtain ⟨z, rfl, _⟩ := h; rfl
  obtain ⟨z, rfl, hz, q⟩ := h
  refine ⟨_, (pss_one (ps_ret (pe_c c_consists_of hr (by decide) (by rfl) (pa_cons (pv 0) (pa_cons (pe_gc (by rfl) T.c_KEY_CHARACTERS) (pa_cons (pe_gc (by rfl) T.c_MOST_KEY) pa_nil)))))), ?_⟩
  walk_at "rds"
  exact ⟨z, _, 20, rfl, hz, fun H' s => q H' s⟩
theorem c_is_amount (T : Txt K mg) : Cal P w K mg base 2 "is_amount" (spStrB K amL) [] := by
  have c_is_decimal := c_is_decimal (P := P) (w := w) (base := base) T
  refine cal T.d_is_amount sc_is_amount (fun vs H Q E h => ?_) (fun f cdv A' outer s H vs Q E hr h => ?_)
  · obtain ⟨z, rfl, _⟩ := h; rfl
  obtain ⟨z, rfl, hz, q⟩ := h
  refine ⟨_, (pss_one (ps_ret (pe_and (pe_cmpR op_le (pe_callB call_len_str (by rfl) T.z_len (by decide +kernel) (pa_cons (pv 0) pa_nil)) (pe_gc (by rfl) T.c_MOST_AMOUNT) (nomark _)) (pe_one (pe_c c_is_decimal hr (by decide) (by rfl) (pa_cons (pv 0) pa_nil)))))), ?_⟩
  unfold amL at q
  rw [len_tl] at q
  walk_at "rds"
  cases e : decide ((z.length : Int) ≤ 12) with
  | false =>
    rw [e] at q
    refine ifF rfl ?_
    exact q H (Same.refl H)
  | true =>
    rw [e] at q
    refine ifT rfl ?_
    walk_at "rds"
    exact ⟨hz, fun H' s => q H' s⟩
def spShortS (K : PySem.W.Frag) : Sp := fun vs H Q _ => ∃ (z : Str) (m : Int), vs = [.str z, .int m] ∧ z.length ≤ 10000 ∧ ∀ H', Same H H' → Q (.bl (isPr z && decide ((z.length : Int) ≤ m))) H'
theorem c_is_shortS (T : Txt K mg) : Cal P w K mg base 2 "is_short" (spShortS K) [] := by
  have c_is_printable := c_is_printable (P := P) (w := w) (base := base) T
  refine cal T.d_is_short sc_is_short (fun vs H Q E h => ?_) (fun f cdv A' outer s H vs Q E hr h => ?_)
  · obtain ⟨z, m, rfl, _⟩ := h; rfl
  obtain ⟨z, m, rfl, hz, q⟩ := h
  refine ⟨_, (pss_one (ps_ret (pe_and (pe_c c_is_printable hr (by decide) (by rfl) (pa_cons (pv 0) pa_nil)) (pe_one (pe_cmpR op_le (pe_callB call_len_str (by rfl) T.z_len (by decide +kernel) (pa_cons (pv 0) pa_nil)) (pv 1) (nomark _)))))), ?_⟩
  refine ⟨_, rfl, .str z, rfl, .inl ⟨z, rfl, by omega, fun H' sm => ?_⟩⟩
  have q := q H' sm
  refine ⟨_, rfl, ?_⟩
  cases e : isPr z with
  | false =>
    rw [e] at q
    refine ifF rfl ?_
    exact q
  | true =>
    rw [e] at q
    refine ifT rfl ?_
    walk_at "rds"
    exact q
theorem c_is_value (T : Txt K mg) : Cal P w K mg base 3 "is_value" (spStrB K vlL) [] := by
  have c_is_short := c_is_shortS (P := P) (w := w) (base := base) T
  refine cal T.d_is_value sc_is_value (fun vs H Q E h => ?_) (fun f cdv A' outer s H vs Q E hr h => ?_)
  · obtain ⟨z, rfl, _⟩ := h; rfl
  obtain ⟨z, rfl, hz, q⟩ := h
  refine ⟨_, (pss_one (ps_ret (pe_and (pe_cmpR op_ne (pv 0) pe_str (nomark _)) (pe_and (pe_cmpR op_notInS pe_str (pv 0) (by rfl)) (pe_and (pe_cmpR op_notInS pe_str (pv 0) (by rfl)) (pe_one (pe_c c_is_short hr (by decide) (by rfl) (pa_cons (pv 0) (pa_cons (pe_gc (by rfl) T.c_MOST_VALUE) pa_nil))))))))), ?_⟩
  have hlen := len_tl z
  have e1 : (!decide (V.str z = V.str (Str.ofString ""))) = !z.cps.toList.isEmpty := by
    by_cases h : z = Str.ofString ""
    · subst h; decide
    · rw [decide_eq_false (fun e => h (V.str.inj e))]
      cases e : z.cps.toList with
      | nil => exact absurd (str_eq_l.mpr (e.trans (by decide : [] = (Str.ofString "").cps.toList))) h
      | cons _ _ => rfl
  have s1 : (Str.ofString " ") = ⟨#[32]⟩ := by decide
  have s2 : (Str.ofString ";") = ⟨#[59]⟩ := by decide
  walk_at "rds"
  rw [e1]
  unfold vlL at q
  cases e1 : z.cps.toList.isEmpty with
  | true =>
    rw [e1] at q
    refine ifF rfl ?_
    exact q H (Same.refl H)
  | false =>
    rw [e1] at q
    refine ifT rfl ?_
    walk_at "rds"
    cases e2 : decide (32 ∈ z.cps.toList) with
    | true =>
      rw [e2] at q
      refine ifF (by show (!decide (32 ∈ z.cps.toList)) = false; rw [e2]; rfl) ?_
      exact q H (Same.refl H)
    | false =>
      rw [e2] at q
      refine ifT (by show (!decide (32 ∈ z.cps.toList)) = true; rw [e2]; rfl) ?_
      walk_at "rds"
      cases e3 : decide (59 ∈ z.cps.toList) with
      | true =>
        rw [e3] at q
        refine ifF (by show (!decide (59 ∈ z.cps.toList)) = false; rw [e3]; rfl) ?_
        exact q H (Same.refl H)
      | false =>
        rw [e3, hlen] at q
        refine ifT (by show (!decide (59 ∈ z.cps.toList)) = true; rw [e3]; rfl) ?_
        walk_at "rds"
        exact ⟨z, 40, rfl, hz, fun H' s => q H' s⟩
end

/-! ### the law -/
def PRT : Str := Str.ofString " !\"#$&'()*+,-./0123456789:;<=>?@ABCDEFGHIJKLMNOPQRSTUVWXYZ[\\]^_`" ++ Str.ofString "abcdefghijklmnopqrstuvwxyz{|}~"
theorem inL_cong {a b : List Nat} (h : ∀ c, decide (c ∈ a) = decide (c ∈ b)) (l : List Nat) : inL l a = inL l b := by
  unfold inL
  congr 1
  funext c
  exact h c
theorem mem_small {a : List Nat} {p : Nat → Bool} (h1 : ∀ c : Fin 128, decide (c.val ∈ a) = p c.val) (h2 : ∀ c ∈ a, c < 128) (h3 : ∀ c, p c = true → c < 128) (c : Nat) : decide (c ∈ a) = p c := by
  by_cases hc : c < 128
  · exact h1 ⟨c, hc⟩
  · rw [decide_eq_false (fun m => hc (h2 c m))]
    cases e : p c with
    | false => rfl
    | true => exact absurd (h3 c e) hc
theorem inL_all {a : List Nat} {p : Nat → Bool} (h : ∀ c, decide (c ∈ a) = p c) (l : List Nat) : inL l a = l.all p := by
  unfold inL
  congr 1
  funext c
  exact h c
theorem prt_mem (c : Nat) : decide (c ∈ PRT.cps.toList) = prC c := mem_small (by decide +kernel) (by decide +kernel) (fun c h => by
  unfold prC at h; rw [Bool.and_eq_true, Bool.and_eq_true] at h; have := of_decide_eq_true h.1.2; omega) c
theorem dig_mem (c : Nat) : decide (c ∈ (Str.ofString "0123456789").cps.toList) = dg c := mem_small (by decide +kernel) (by decide +kernel) (fun c h => by have := dg_lt h; omega) c
theorem key_mem (c : Nat) : decide (c ∈ (Str.ofString "abcdefghijklmnopqrstuvwxyz" ++ Str.ofString "0123456789.").cps.toList) = decide (c ∈ keysL) := mem_small (p := fun c => decide (c ∈ keysL)) (by decide +kernel) (by decide +kernel) (fun c h => (show ∀ c ∈ keysL, c < 128 by decide +kernel) c (of_decide_eq_true h)) c
theorem atI_lt {α : Type} {xs : List α} {i : Int} (h0 : 0 ≤ i) (h1 : i < xs.length) : ∃ v, v ∈ xs ∧ atI xs i = some v := by
  obtain ⟨j, rfl⟩ := Int.eq_ofNat_of_zero_le h0
  have hj : j < xs.length := Int.ofNat_lt.mp h1
  exact ⟨xs[j], List.getElem_mem hj, atI_nat (List.getElem?_eq_getElem hj)⟩

def spCellI (K : PySem.W.Frag) : Sp := fun vs H Q _ => ∃ (a : Addr) (ns : List Int) (k : Nat), vs = [.ref a, .int k] ∧ SqL K H a (ns.map V.int) ∧ Q (.int (ns.getD k 0)) H
def spWord : Sp := fun vs H Q _ => ∃ (n : Nat) (ch : Str) (seed step : Int), vs = [.int n, .str ch, .int seed, .int step] ∧ n ≤ 100 ∧ 0 < ch.length ∧ ch.length ≤ 1000 ∧ ∀ z : Str, z.length = n → (∀ c ∈ z.cps.toList, c ∈ ch.cps.toList) → Q (.str z) H
def spPrt : Sp := fun vs H Q _ => vs = [] ∧ Q (.str PRT) H
def spAllIn : Sp := fun vs H Q _ => ∃ (z ch : Str), vs = [.str z, .str ch] ∧ Q (.bl (inL z.cps.toList ch.cps.toList)) H
def spBuilt (K : PySem.W.Frag) : Sp := fun vs H Q _ => ∃ (a : Addr) (ns : List Int), vs = [.ref a] ∧ SqL K H a (ns.map V.int) ∧ ∀ H' (z : Str), Same H H' → z.length ≤ 200 → Q (.str z) H'
def spDue : Sp := fun vs H Q _ => ∃ (z : Str), vs = [.str z] ∧ z.length ≤ 200 ∧ ∀ p, H p = none → Q (.ref p) (upd H p (.lst [.bl (nmL z.cps.toList), .bl (kyL z.cps.toList), .bl (vlL z.cps.toList), .bl (amL z.cps.toList)]))
section
variable {P : Program} {w : World} {K : PySem.W.Frag} {mg : Str → Option Value} {base : Heap}
theorem c__law_cell (T : Txt K mg) : Cal P w K mg base 1 "_law_cell" (spCellI K) [] := by
  refine cal T.d__law_cell sc__law_cell (fun vs H Q E h => ?_) (fun f cdv A outer s H vs Q E hr h => ?_)
  · obtain ⟨a, ns, k, rfl, _⟩ := h; rfl
  obtain ⟨a, ns, k, rfl, hS, q⟩ := h
  refine ⟨_, (pss_cons (ps_if (pt_cmpR op_lt (pv 1) (pe_callB (klen (K := K)) (by rfl) T.z_len (by decide +kernel) (pa_cons (pv 0) pa_nil)) (nomark _)) (pss_one (ps_ret (pe_callTy call_int1 (by rfl) T.z_int (by decide +kernel) (pa_cons (pe_ix (kixl (K := K)) (pv 0) (pv 1) (fun _ _ => rfl)) pa_nil)))) pss_nil)
      (pss_one (ps_ret pe_int))), ?_⟩
  refine ⟨.int k, rfl, .ref a, rfl, a, _, rfl, .inl hS, _, _, rfl, rfl, _, rfl, ite2 (fun e => ?_) (fun e => ?_)⟩
  · have e := of_decide_eq_true e
    rw [List.length_map] at e
    have e1 : k < ns.length := by omega
    have g : (ns.map V.int)[k]? = some (.int (ns.getD k 0)) := by
      rw [List.getElem?_map, List.getD_eq_getElem?_getD, List.getElem?_eq_getElem e1]; rfl
    refine ⟨.ref a, rfl, .int k, rfl, a, _, _, _, rfl, rfl, hS, atI_nat g, ?_⟩
    walk_at "rds"
    exact q
  · have e2 : ¬ ((k : Int) < ((ns.map V.int).length : Int)) := fun z => e (decide_eq_true z)
    rw [List.length_map] at e2
    have e1 : ns.getD k 0 = 0 := by
      rw [List.getD_eq_getElem?_getD, List.getElem?_eq_none (by omega)]; rfl
    rw [e1] at q
    exact q
theorem c__law_word (T : Txt K mg) : Cal P w K mg base 1 "_law_word" spWord [] := by
  refine cal T.d__law_word sc__law_word (fun vs H Q E h => ?_) (fun f cdv A' outer s H vs Q E hr h => ?_)
  · obtain ⟨n, ch, seed, step, rfl, _⟩ := h; rfl
  obtain ⟨n, ch, seed, step, rfl, hn, h0, h1, q⟩ := h
  refine ⟨_, (pss_cons (ps_set (i := 4) sc__law_word.nd rfl (Or.inl rfl) pe_str)
      (pss_cons (ps_set (i := 5) sc__law_word.nd rfl (Or.inl rfl) (pe_callTy call_int1 (by rfl) T.z_int (by decide +kernel) (pa_cons (pv 2) pa_nil)))
      (pss_cons (ps_for PassesOwn.never rfl (pi_range1 (by rfl) T.z_range (pa_cons (pv 0) pa_nil)) (pg_name (i := 6) sc__law_word.nd rfl (Or.inl rfl)) (pss_cons (ps_set (i := 4) sc__law_word.nd rfl (Or.inl rfl) (pe_op op_add_str (pv 4) (pe_ix ix_str (pv 1) (pe_op op_mod (pe_callTy call_int1 (by rfl) T.z_int (by decide +kernel) (pa_cons (pe_op op_add (pv 5) (pe_op op_mul (pv 6) (pv 3))) pa_nil)) (pe_callB call_len_str (by rfl) T.z_len (by decide +kernel) (pa_cons (pv 1) pa_nil))) (fun _ _ => rfl))))
      (pss_one (ps_set (i := 5) sc__law_word.nd rfl (Or.inl rfl) (pe_op op_fdiv (pv 5) (pe_callB call_len_str (by rfl) T.z_len (by decide +kernel) (pa_cons (pv 1) pa_nil)))))))
      (pss_one (ps_ret (pv 4)))))), ?_⟩
  walk_at "rds"
  refine for_it walk_range (Pv := fun i σ H' => H' = H ∧ ∃ (z : Str) (r : Int) (y : Option V), σ = [some (.int n), some (.str ch), some (.int seed), some (.int step), some (.str z), some (.int r), y] ∧ z.length = i ∧ ∀ c ∈ z.cps.toList, c ∈ ch.cps.toList) ⟨rfl, _, _, _, rfl, by decide, (fun c m => by cases m)⟩ (fun _ _ _ _ _ => trivial) (fun i x σ H1 H2 hi hp hy => ?_) (fun σ H1 hp => ?_)
  · obtain ⟨rfl, z, r, y, rfl, hz, hc⟩ := hp
    obtain ⟨rfl, rfl⟩ := hy
    have hi' : i < n := by omega
    walk_at "rds"
    obtain ⟨c, hcm, hat⟩ := atI_lt (xs := ch.cps.toList) (i := (r + (0 + (i : Int)) * step) % (ch.length : Int)) (Int.emod_nonneg _ (by omega)) (by rw [len_tl]; exact Int.emod_lt_of_pos _ (by omega))
    refine ⟨ch, _, c, rfl, rfl, sz1000 (by omega), hat, ?_⟩
    refine ⟨z, _, rfl, rfl, ?_, ?_⟩
    · exact sz1000 (by rw [hz]; show i + 1 ≤ 100000; omega)
    walk_at "rds"
    refine ⟨rfl, z ++ ⟨#[c]⟩, _, _, rfl, ?_, ?_⟩
    · rw [Str.length_append, hz]; rfl
    · intro d hd
      rw [app_tl] at hd
      rcases List.mem_append.mp hd with hd | hd
      · exact hc d hd
      · rw [List.mem_singleton.mp hd]; exact hcm
  · obtain ⟨rfl, z, r, y, rfl, hz, hc⟩ := hp
    walk_at "rds"
    exact q z (by omega) hc
theorem c__law_printable (T : Txt K mg) : Cal P w K mg base 1 "_law_printable" spPrt [] := by
  refine cal T.d__law_printable sc__law_printable (fun vs H Q E h => ?_) (fun f cdv A' outer s H vs Q E hr h => ?_)
  · obtain ⟨rfl, _⟩ := h; rfl
  obtain ⟨rfl, q⟩ := h
  refine ⟨_, (pss_cons (ps_set (i := 0) sc__law_printable.nd rfl (Or.inl rfl) pe_str)
      (pss_one (ps_ret (pe_op op_add_str (pv 0) pe_str)))), ?_⟩
  walk_at "rds"
  exact q
theorem c__law_all_in (T : Txt K mg) : Cal P w K mg base 1 "_law_all_in" spAllIn [] := by
  refine cal T.d__law_all_in sc__law_all_in (fun vs H Q E h => ?_) (fun f cdv A' outer s H vs Q E hr h => ?_)
  · obtain ⟨z, ch, rfl, _⟩ := h; rfl
  obtain ⟨z, ch, rfl, q⟩ := h
  refine ⟨_, (pss_cons (ps_for PassesOwn.never rfl (pi_str (pv 0)) (pg_name (i := 2) sc__law_all_in.nd rfl (Or.inl rfl)) (pss_one (ps_if (pt_cmpR op_notInS (pv 2) (pv 1) (by rfl)) (pss_one (ps_ret pe_bl)) pss_nil)))
      (pss_one (ps_ret pe_bl))), ?_⟩
  walk_at "rds"
  refine for_it walk_str (Pv := fun i σ H' => H' = H ∧ ∃ (y : Option V), σ = [some (.str z), some (.str ch), y] ∧ inL z.cps.toList ch.cps.toList = inL (z.cps.toList.drop i) ch.cps.toList) ⟨rfl, _, rfl, rfl⟩ (fun _ _ _ _ _ => trivial) (fun i x σ H1 H2 hi hp hy => ?_) (fun σ H1 hp => ?_)
  · obtain ⟨rfl, y, rfl, eq⟩ := hp
    obtain ⟨rfl, c, gc, rfl⟩ := hy
    have gc : z.cps.toList[i]? = some c := by rw [Array.getElem?_toList]; exact gc
    have hid : i < z.cps.toList.length := (List.getElem?_eq_some_iff.mp gc).1
    rw [List.drop_eq_getElem_cons hid] at eq
    rw [List.getElem?_eq_getElem hid] at gc
    rw [Option.some.inj gc] at eq
    have eq : inL z.cps.toList ch.cps.toList = (decide (c ∈ ch.cps.toList) && inL (z.cps.toList.drop (i + 1)) ch.cps.toList) := eq
    walk_at "rds"
    cases e : decide (c ∈ ch.cps.toList) with
    | false =>
      refine ifT rfl ?_
      rw [eq, e] at q
      exact q
    | true =>
      refine ifF rfl ?_
      exact ⟨rfl, _, rfl, by rw [eq, e, Bool.true_and]⟩
  · obtain ⟨rfl, y, rfl, eq⟩ := hp
    walk_at "rds"
    rw [eq, List.drop_of_length_le (by rw [Array.length_toList]; exact Nat.le_refl _)] at q
    exact q
theorem c__law_built (T : Txt K mg) : Cal P w K mg base 2 "_law_built" (spBuilt K) [] := by
  have c__law_cell := c__law_cell (P := P) (w := w) (base := base) T
  have c__law_word := c__law_word (P := P) (w := w) (base := base) T
  have c__law_printable := c__law_printable (P := P) (w := w) (base := base) T
  refine cal T.d__law_built sc__law_built (fun vs H Q E h => ?_) (fun f cdv A' outer s H vs Q E hr h => ?_)
  · obtain ⟨a, ns, rfl, _⟩ := h; rfl
  obtain ⟨a, ns, rfl, hS, q⟩ := h
  refine ⟨_, (pss_cons (ps_set (i := 1) sc__law_built.nd rfl (Or.inl rfl) (pe_c c__law_cell hr (by decide) (by rfl) (pa_cons (pv 0) (pa_cons pe_int pa_nil))))
      (pss_cons (ps_set (i := 2) sc__law_built.nd rfl (Or.inl rfl) (pe_op op_mod (pe_op op_fdiv (pv 1) pe_int) pe_int))
      (pss_cut (ps_if (pt_cmpR op_eq (pe_op op_mod (pv 1) pe_int) pe_int (nomark _)) (pss_one (ps_set (i := 2) sc__law_built.nd rfl (Or.inl rfl) (pe_ix (kixl (K := K)) (pe_lst (pa_cons pe_int (pa_cons pe_int (pa_cons pe_int (pa_cons pe_int (pa_cons pe_int (pa_cons pe_int (pa_cons pe_int (pa_cons pe_int pa_nil))))))))) (pe_op op_mod (pe_op op_fdiv (pv 1) pe_int) pe_int) (fun _ _ => rfl)))) pss_nil)
      (pss_cons (ps_set (i := 3) sc__law_built.nd rfl (Or.inl rfl) pe_str)
      (pss_cons (ps_set (i := 4) sc__law_built.nd rfl (Or.inl rfl) (pe_op op_add_str (pv 3) pe_str))
      (pss_cons (ps_set (i := 5) sc__law_built.nd rfl (Or.inl rfl) (pe_op op_add_str (pe_c0 c__law_printable hr (by decide) (by rfl)) pe_str))
      (pss_cons (ps_set (i := 6) sc__law_built.nd rfl (Or.inl rfl) (pe_ix (kixl (K := K)) (pe_lst (pa_cons (pv 3) (pa_cons pe_str (pa_cons (pv 4) (pa_cons (pv 5) pa_nil))))) (pe_op op_mod (pe_c c__law_cell hr (by decide) (by rfl) (pa_cons (pv 0) (pa_cons pe_int pa_nil))) pe_int) (fun _ _ => rfl)))
      (pss_cons (ps_set (i := 7) sc__law_built.nd rfl (Or.inl rfl) (pe_c c__law_word hr (by decide) (by rfl) (pa_cons (pv 2) (pa_cons (pv 6) (pa_cons (pe_c c__law_cell hr (by decide) (by rfl) (pa_cons (pv 0) (pa_cons pe_int pa_nil))) (pa_cons (pe_c c__law_cell hr (by decide) (by rfl) (pa_cons (pv 0) (pa_cons pe_int pa_nil))) pa_nil))))))
      (pss_cut (ps_if (PW.pt (pw_and (pt_cmpR op_gt (pv 2) pe_int (nomark _)) (pw_and1 (pt_cmpR op_eq (pe_op op_mod (pe_op op_fdiv (pe_c c__law_cell hr (by decide) (by rfl) (pa_cons (pv 0) (pa_cons pe_int pa_nil))) pe_int) pe_int) pe_int (nomark _))))) (pss_cons (ps_set (i := 8) sc__law_built.nd rfl (Or.inl rfl) (pe_op op_mod (pe_c c__law_cell hr (by decide) (by rfl) (pa_cons (pv 0) (pa_cons pe_int pa_nil))) (pv 2)))
      (pss_one (ps_set (i := 7) sc__law_built.nd rfl (Or.inl rfl) (pe_op op_add_str (pe_op op_add_str (pe_slice sl_str (pv 7) po_none (po_some (pv 8))) (pe_ix ix_str (pv 5) (pe_op op_mod (pe_c c__law_cell hr (by decide) (by rfl) (pa_cons (pv 0) (pa_cons pe_int pa_nil))) (pe_callB call_len_str (by rfl) T.z_len (by decide +kernel) (pa_cons (pv 5) pa_nil))) (fun _ _ => rfl))) (pe_slice sl_str (pv 7) (po_some (pe_op op_add (pv 8) pe_int)) po_none))))) pss_nil)
      (pss_one (ps_ret (pv 7)))))))))))), ?_⟩
  walk_at "rds"
  refine ⟨a, ns, 0, rfl, hS, ?_⟩
  generalize ns.getD 0 0 = ch0
  walk_at "rds"
  refine ⟨fun σ' H' => ∃ n : Nat, σ' = [some (.ref a), some (.int ch0), some (.int n), none, none, none, none, none, none] ∧ n < 44 ∧ Same H H', ?_, ?_⟩
  · walk_at "rds"
    refine ite2 (fun _ => ?_) (fun _ => ?_)
    · walk_at "rds"
      intro L hL
      walk_at "rds"
      obtain ⟨v, hv, hat⟩ := atI_lt (xs := [V.int 0, .int 1, .int 12, .int 13, .int 20, .int 21, .int 40, .int 41]) (i := ch0 / 4 % 8) (by omega) (by show ch0 / 4 % 8 < 8; omega)
      refine ⟨L, _, _, v, rfl, rfl, sq upd_same, hat, ?_⟩
      have : ∃ n : Nat, v = .int n ∧ n < 44 := by
        simp only [List.mem_cons, List.not_mem_nil, or_false] at hv
        rcases hv with rfl | rfl | rfl | rfl | rfl | rfl | rfl | rfl
        · exact ⟨0, rfl, by decide⟩
        · exact ⟨1, rfl, by decide⟩
        · exact ⟨12, rfl, by decide⟩
        · exact ⟨13, rfl, by decide⟩
        · exact ⟨20, rfl, by decide⟩
        · exact ⟨21, rfl, by decide⟩
        · exact ⟨40, rfl, by decide⟩
        · exact ⟨41, rfl, by decide⟩
      obtain ⟨n, rfl, hn⟩ := this
      exact ⟨n, rfl, hn, same_upd hL⟩
    · refine ⟨(ch0 / 4 % 44).toNat, ?_, by omega, Same.refl H⟩
      rw [Int.toNat_of_nonneg (by omega)]
      rfl
  rintro σ' H1 ⟨n, rfl, hn, s1⟩
  walk_at "rds"
  refine ⟨rfl, ?_⟩
  have hO : 0 < (PRT ++ Str.ofString "\n\t").length ∧ (PRT ++ Str.ofString "\n\t").length ≤ 200 := by decide +kernel
  refine ⟨_, _, rfl, rfl, sz1000 (by decide +kernel), ?_⟩
  generalize PRT ++ Str.ofString "\n\t" = O at hO
  walk_at "rds"
  intro L hL
  walk_at "rds"
  refine ⟨a, ns, 1, rfl, (s1.trans (same_upd hL)).seq hS, ?_⟩
  generalize ns.getD 1 0 = c1
  walk_at "rds"
  obtain ⟨v, hv, hat⟩ := atI_lt (xs := [V.str (Str.ofString "abcdefghijklmnopqrstuvwxyz"), .str (Str.ofString "0123456789"), .str (Str.ofString "abcdefghijklmnopqrstuvwxyz" ++ Str.ofString "0123456789."), .str O]) (i := c1 % 4) (by omega) (by show c1 % 4 < 4; omega)
  have : ∃ z : Str, v = .str z ∧ 0 < z.length ∧ z.length ≤ 200 := by
    simp only [List.mem_cons, List.not_mem_nil, or_false] at hv
    rcases hv with rfl | rfl | rfl | rfl
    · exact ⟨_, rfl, by decide +kernel, by decide +kernel⟩
    · exact ⟨_, rfl, by decide +kernel, by decide +kernel⟩
    · exact ⟨_, rfl, by decide +kernel, by decide +kernel⟩
    · exact ⟨_, rfl, hO⟩
  obtain ⟨cz, rfl, hcz0, hcz1⟩ := this
  refine ⟨L, _, _, _, rfl, rfl, sq upd_same, hat, ?_⟩
  have s2 : Same H (upd H1 L (.lst [.str (Str.ofString "abcdefghijklmnopqrstuvwxyz"), .str (Str.ofString "0123456789"), .str (Str.ofString "abcdefghijklmnopqrstuvwxyz" ++ Str.ofString "0123456789."), .str O])) := s1.trans (same_upd hL)
  walk_at "rds"
  refine ⟨a, ns, 2, rfl, s2.seq hS, ?_⟩
  walk_at "rds"
  refine ⟨a, ns, 3, rfl, s2.seq hS, ?_⟩
  refine ⟨n, cz, _, _, rfl, by omega, hcz0, by omega, fun z hz hc => ?_⟩
  walk_at "rds"
  refine ⟨fun σ' H' => ∃ (y1 y3 y4 y5 y6 y8 : Option V) (z : Str), σ' = [some (.ref a), y1, some (.int n), y3, y4, y5, y6, some (.str z), y8] ∧ z.length ≤ 200 ∧ Same H H', ?_, ?_⟩
  · walk_at "rds"
    refine ite2 (fun e => ?_) (fun e => ?_)
    · have e : (0 : Int) < n := of_decide_eq_true e
      walk_at "rds"
      refine ⟨a, ns, 1, rfl, s2.seq hS, ?_⟩
      walk_at "rds"
      refine ite2 (fun _ => ?_) (fun _ => ?_)
      · walk_at "rds"
        refine ⟨a, ns, 4, rfl, s2.seq hS, ?_⟩
        walk_at "rds"
        refine ⟨a, ns, 5, rfl, s2.seq hS, ?_⟩
        generalize ns.getD 5 0 = c5
        walk_at "rds"
        obtain ⟨c, hcm, hat2⟩ := atI_lt (xs := O.cps.toList) (i := c5 % (O.length : Int)) (Int.emod_nonneg _ (by omega)) (by rw [len_tl]; exact Int.emod_lt_of_pos _ (by omega))
        refine ⟨O, _, c, rfl, rfl, sz1000 (by omega), hat2, ?_⟩
        have l1 := cutS_length z none (some (ns.getD 4 0 % (n : Int)))
        have l2 := cutS_length z (some (ns.getD 4 0 % (n : Int) + 1)) none
        have l3 : (⟨#[c]⟩ : Str).length = 1 := rfl
        refine ⟨_, _, rfl, rfl, sz1000 (by omega), ?_⟩
        walk_at "rds"
        refine ⟨by rw [Str.length_append]; exact sz1000 (by omega), ?_⟩
        refine ⟨_, _, _, _, _, _, _, rfl, ?_, s2⟩
        rw [Str.length_append, Str.length_append]
        omega
      · exact ⟨_, _, _, _, _, _, z, rfl, by omega, s2⟩
    · refine ifF rfl ?_
      exact ⟨_, _, _, _, _, _, z, rfl, by omega, s2⟩
  rintro σ' H2 ⟨y1, y3, y4, y5, y6, y8, z, rfl, hz, s3⟩
  walk_at "rds"
  exact q _ z s3 hz
theorem c__law_due (T : Txt K mg) : Cal P w K mg base 2 "_law_due" spDue [] := by
  have c__law_all_in := c__law_all_in (P := P) (w := w) (base := base) T
  have c__law_printable := c__law_printable (P := P) (w := w) (base := base) T
  refine cal T.d__law_due sc__law_due (fun vs H Q E h => ?_) (fun f cdv A' outer s H vs Q E hr h => ?_)
  · obtain ⟨z, rfl, _⟩ := h; rfl
  obtain ⟨z, rfl, hz, q⟩ := h
  refine ⟨_, (pss_cons (ps_set (i := 1) sc__law_due.nd rfl (Or.inl rfl) (pe_callB call_len_str (by rfl) T.z_len (by decide +kernel) (pa_cons (pv 0) pa_nil)))
      (pss_cons (ps_set (i := 2) sc__law_due.nd rfl (Or.inl rfl) pe_str)
      (pss_cut (ps_set (i := 3) sc__law_due.nd rfl (Or.inl rfl) (pe_and (pe_cmpR op_ge (pv 1) pe_int (nomark _)) (pe_and (pe_cmpR op_le (pv 1) pe_int (nomark _)) (pe_one (pe_c c__law_all_in hr (by decide) (by rfl) (pa_cons (pv 0) (pa_cons (pv 2) pa_nil)))))))
      (pss_cut (ps_set (i := 4) sc__law_due.nd rfl (Or.inl rfl) (pe_and (pe_cmpR op_ge (pv 1) pe_int (nomark _)) (pe_and (pe_cmpR op_le (pv 1) pe_int (nomark _)) (pe_one (pe_c c__law_all_in hr (by decide) (by rfl) (pa_cons (pv 0) (pa_cons (pe_op op_add_str (pv 2) pe_str) pa_nil)))))))
      (pss_cut (ps_set (i := 5) sc__law_due.nd rfl (Or.inl rfl) (pe_and (pe_cmpR op_ge (pv 1) pe_int (nomark _)) (pe_and (pe_cmpR op_le (pv 1) pe_int (nomark _)) (pe_one (pe_c c__law_all_in hr (by decide) (by rfl) (pa_cons (pv 0) (pa_cons (pe_c0 c__law_printable hr (by decide) (by rfl)) pa_nil)))))))
      (pss_cut (ps_set (i := 5) sc__law_due.nd rfl (Or.inl rfl) (pe_and (pv 5) (pe_and (pe_cmpR op_notInS pe_str (pv 0) (by rfl)) (pe_one (pe_cmpR op_notInS pe_str (pv 0) (by rfl))))))
      (pss_cut (ps_set (i := 6) sc__law_due.nd rfl (Or.inl rfl) (pe_and (pe_cmpR op_ge (pv 1) pe_int (nomark _)) (pe_and (pe_cmpR op_le (pv 1) pe_int (nomark _)) (pe_one (pe_c c__law_all_in hr (by decide) (by rfl) (pa_cons (pv 0) (pa_cons pe_str pa_nil)))))))
      (pss_cut (ps_set (i := 6) sc__law_due.nd rfl (Or.inl rfl) (pe_and (pv 6) (pe_one (pe_or (pe_cmpR op_ne (pe_ix ix_str (pv 0) pe_int (fun _ _ => rfl)) pe_str (nomark _)) (pe_one (pe_cmpR op_eq (pv 1) pe_int (nomark _)))))))
      (pss_one (ps_ret (pe_lst (pa_cons (pv 3) (pa_cons (pv 4) (pa_cons (pv 5) (pa_cons (pv 6) pa_nil))))))))))))))), ?_⟩
  have hlen := len_tl z
  walk_at "rds"
  refine ⟨fun σ' H' => H' = H ∧ σ' = [some (.str z), some (.int z.length), some (.str (Str.ofString "abcdefghijklmnopqrstuvwxyz")), some (.bl (nmL z.cps.toList)), none, none, none], ?_, ?_⟩
  · walk_at "rds"
    unfold nmL
    rw [hlen]
    refine ite2 (fun e => ?_) (fun e => ?_)
    · have e : (z.length : Int) ≥ 1 := of_decide_eq_true e
      walk_at "rds"
      refine ite2 (fun e2 => ?_) (fun e2 => ?_)
      · have e2 : (z.length : Int) ≤ 12 := of_decide_eq_true e2
        walk_at "rds"
        refine ⟨z, _, rfl, ?_⟩
        refine ⟨rfl, ?_⟩
        rw [decide_eq_true (show 1 ≤ z.length by omega), decide_eq_true e2]; rfl
      · have e2 : ¬ (z.length : Int) ≤ 12 := fun h => e2 (decide_eq_true h)
        refine ⟨rfl, ?_⟩
        rw [decide_eq_false e2, Bool.and_false]; rfl
    · have e : ¬ (z.length : Int) ≥ 1 := fun h => e (decide_eq_true h)
      refine ⟨rfl, ?_⟩
      rw [decide_eq_false (show ¬ 1 ≤ z.length by omega)]; rfl
  rintro σ' H' ⟨rfl, rfl⟩
  refine ⟨fun σ' H1 => H1 = H' ∧ σ' = [some (.str z), some (.int z.length), some (.str (Str.ofString "abcdefghijklmnopqrstuvwxyz")), some (.bl (nmL z.cps.toList)), some (.bl (kyL z.cps.toList)), none, none], ?_, ?_⟩
  · walk_at "rds"
    unfold kyL
    rw [hlen, ← inL_cong key_mem]
    refine ite2 (fun e => ?_) (fun e => ?_)
    · have e : (z.length : Int) ≥ 1 := of_decide_eq_true e
      walk_at "rds"
      refine ite2 (fun e2 => ?_) (fun e2 => ?_)
      · have e2 : (z.length : Int) ≤ 20 := of_decide_eq_true e2
        walk_at "rds"
        refine ⟨z, _, rfl, ?_⟩
        refine ⟨rfl, ?_⟩
        rw [decide_eq_true (show 1 ≤ z.length by omega), decide_eq_true e2]; rfl
      · have e2 : ¬ (z.length : Int) ≤ 20 := fun h => e2 (decide_eq_true h)
        refine ⟨rfl, ?_⟩
        rw [decide_eq_false e2, Bool.and_false]; rfl
    · have e : ¬ (z.length : Int) ≥ 1 := fun h => e (decide_eq_true h)
      refine ⟨rfl, ?_⟩
      rw [decide_eq_false (show ¬ 1 ≤ z.length by omega)]; rfl
  rintro σ' H1 ⟨rfl, rfl⟩
  refine ⟨fun σ' H' => H' = H1 ∧ σ' = [some (.str z), some (.int z.length), some (.str (Str.ofString "abcdefghijklmnopqrstuvwxyz")), some (.bl (nmL z.cps.toList)), some (.bl (kyL z.cps.toList)), some (.bl (decide (1 ≤ z.length) && decide ((z.length : Int) ≤ 40) && z.cps.toList.all prC)), none], ?_, ?_⟩
  · walk_at "rds"
    rw [← inL_all prt_mem]
    refine ite2 (fun e => ?_) (fun e => ?_)
    · have e : (z.length : Int) ≥ 1 := of_decide_eq_true e
      walk_at "rds"
      refine ite2 (fun e2 => ?_) (fun e2 => ?_)
      · have e2 : (z.length : Int) ≤ 40 := of_decide_eq_true e2
        walk_at "rds"
        refine ⟨rfl, ?_⟩
        refine ⟨z, _, rfl, ?_⟩
        refine ⟨rfl, ?_⟩
        rw [decide_eq_true (show 1 ≤ z.length by omega), decide_eq_true e2]; rfl
      · have e2 : ¬ (z.length : Int) ≤ 40 := fun h => e2 (decide_eq_true h)
        refine ⟨rfl, ?_⟩
        rw [decide_eq_false e2, Bool.and_false]; rfl
    · have e : ¬ (z.length : Int) ≥ 1 := fun h => e (decide_eq_true h)
      refine ⟨rfl, ?_⟩
      rw [decide_eq_false (show ¬ 1 ≤ z.length by omega)]; rfl
  rintro σ' H2 ⟨rfl, rfl⟩
  refine ⟨fun σ' H' => H' = H2 ∧ σ' = [some (.str z), some (.int z.length), some (.str (Str.ofString "abcdefghijklmnopqrstuvwxyz")), some (.bl (nmL z.cps.toList)), some (.bl (kyL z.cps.toList)), some (.bl (vlL z.cps.toList)), none], ?_, ?_⟩
  · walk_at "rds"
    have ev : vlL z.cps.toList = ((decide (1 ≤ z.length) && decide ((z.length : Int) ≤ 40) && z.cps.toList.all prC) && (!decide (32 ∈ z.cps.toList) && !decide (59 ∈ z.cps.toList))) := by
      unfold vlL
      rw [hlen]
      have e1 : (!z.cps.toList.isEmpty) = decide (1 ≤ z.length) := by
        rw [← hlen]
        cases z.cps.toList <;> simp
      rw [e1]
      cases decide (1 ≤ z.length) <;> cases decide ((z.length : Int) ≤ 40) <;> cases z.cps.toList.all prC <;> cases decide (32 ∈ z.cps.toList) <;> cases decide (59 ∈ z.cps.toList) <;> rfl
    rw [ev]
    cases e : (decide (1 ≤ z.length) && decide ((z.length : Int) ≤ 40) && z.cps.toList.all prC) with
    | false => 
      refine ifF rfl ?_
      exact ⟨rfl, rfl⟩
    | true =>
      refine ifT rfl ?_
      walk_at "rds"
      cases e2 : decide (32 ∈ z.cps.toList) with
      | true =>
        refine ifF (by show (!decide (32 ∈ z.cps.toList)) = false; rw [e2]; rfl) ?_
        exact ⟨rfl, rfl⟩
      | false =>
        refine ifT (by show (!decide (32 ∈ z.cps.toList)) = true; rw [e2]; rfl) ?_
        walk_at "rds"
        exact ⟨rfl, rfl⟩
  rintro σ' H3 ⟨rfl, rfl⟩
  refine ⟨fun σ' H' => H' = H3 ∧ σ' = [some (.str z), some (.int z.length), some (.str (Str.ofString "abcdefghijklmnopqrstuvwxyz")), some (.bl (nmL z.cps.toList)), some (.bl (kyL z.cps.toList)), some (.bl (vlL z.cps.toList)), some (.bl (decide (1 ≤ z.length) && decide ((z.length : Int) ≤ 12) && z.cps.toList.all dg))], ?_, ?_⟩
  · walk_at "rds"
    rw [← inL_all dig_mem]
    refine ite2 (fun e => ?_) (fun e => ?_)
    · have e : (z.length : Int) ≥ 1 := of_decide_eq_true e
      walk_at "rds"
      refine ite2 (fun e2 => ?_) (fun e2 => ?_)
      · have e2 : (z.length : Int) ≤ 12 := of_decide_eq_true e2
        walk_at "rds"
        refine ⟨z, _, rfl, ?_⟩
        refine ⟨rfl, ?_⟩
        rw [decide_eq_true (show 1 ≤ z.length by omega), decide_eq_true e2]; rfl
      · have e2 : ¬ (z.length : Int) ≤ 12 := fun h => e2 (decide_eq_true h)
        refine ⟨rfl, ?_⟩
        rw [decide_eq_false e2, Bool.and_false]; rfl
    · have e : ¬ (z.length : Int) ≥ 1 := fun h => e (decide_eq_true h)
      refine ⟨rfl, ?_⟩
      rw [decide_eq_false (show ¬ 1 ≤ z.length by omega)]; rfl
  rintro σ' H4 ⟨rfl, rfl⟩
  refine ⟨fun σ' H' => H' = H4 ∧ σ' = [some (.str z), some (.int z.length), some (.str (Str.ofString "abcdefghijklmnopqrstuvwxyz")), some (.bl (nmL z.cps.toList)), some (.bl (kyL z.cps.toList)), some (.bl (vlL z.cps.toList)), some (.bl (amL z.cps.toList))], ?_, ?_⟩
  · walk_at "rds"
    have ev : amL z.cps.toList = ((decide (1 ≤ z.length) && decide ((z.length : Int) ≤ 12) && z.cps.toList.all dg) && (z.cps.toList == [48] || z.cps.toList.head? != some 48)) := by
      unfold amL dcL
      rw [hlen]
      have e1 : (!z.cps.toList.isEmpty) = decide (1 ≤ z.length) := by
        rw [← hlen]
        cases z.cps.toList <;> simp
      rw [e1]
      cases decide (1 ≤ z.length) <;> cases decide ((z.length : Int) ≤ 12) <;> cases z.cps.toList.all dg <;> rfl
    rw [ev]
    cases e : (decide (1 ≤ z.length) && decide ((z.length : Int) ≤ 12) && z.cps.toList.all dg) with
    | false =>
      refine ifF rfl ?_
      exact ⟨rfl, rfl⟩
    | true =>
      refine ifT rfl ?_
      rw [Bool.and_eq_true, Bool.and_eq_true] at e
      have h1 : 1 ≤ z.length := of_decide_eq_true e.1.1
      obtain ⟨c, r, hl⟩ : ∃ c r, z.cps.toList = c :: r := by
        cases hl : z.cps.toList with
        | nil => rw [hl] at hlen; simp at hlen; omega
        | cons c r => exact ⟨c, r, rfl⟩
      have h0 : atI z.cps.toList 0 = some c := atI_nat (j := 0) (by rw [hl]; rfl)
      have hz1 : z.length = r.length + 1 := by rw [← hlen, hl]; rfl
      walk_at "rds"
      refine ⟨z, _, c, rfl, rfl, sz1000 (by omega), h0, ?_⟩
      walk_at "rds"
      have e3 : decide (V.str ⟨#[c]⟩ = V.str (Str.ofString "0")) = decide (c = 48) := by
        by_cases h : c = 48
        · subst h; rfl
        · rw [decide_eq_false h, decide_eq_false (fun z => h (by
            have := congrArg (fun v => match v with | V.str s => s.cps.toList | _ => []) z
            have : [c] = [48] := this
            simpa using this))]
      rw [e3, hl]
      by_cases hc : c = 48
      · subst hc
        refine ifF rfl ?_
        walk_at "rds"
        refine ⟨rfl, ?_⟩
        have : ((48 :: r) == [48] || (48 :: r).head? != some 48) = decide (V.int (z.length : Int) = V.int 1) := by
          rw [hz1]
          cases r with
          | nil => rfl
          | cons d r' =>
            rw [decide_eq_false (fun h => by have := V.int.inj h; simp at this; omega)]
            rfl
        rw [this]; rfl
      · refine ifT (by rw [decide_eq_false hc]; rfl) ?_
        refine ⟨rfl, ?_⟩
        have : ((c :: r) == [48] || (c :: r).head? != some 48) = true := by simp [hc]
        rw [this]; rfl
  rintro σ' H5 ⟨rfl, rfl⟩
  walk_at "rds"
  exact fun p hp => q p hp
theorem ok_law {f : Addr} {fd : FuncData} (F : L2.Fun K "law" "law" s_law f fd) (T : Txt K mg) : FnOk P w K mg base L2.CX0 4 f fd ["script"] (spLaw K) := by
  have c__law_built := c__law_built (P := P) (w := w) (base := base) T
  have c__law_due := c__law_due (P := P) (w := w) (base := base) T
  have c_is_name := c_is_name (P := P) (w := w) (base := base) T
  have c_is_key := c_is_key (P := P) (w := w) (base := base) T
  have c_is_value := c_is_value (P := P) (w := w) (base := base) T
  have c_is_amount := c_is_amount (P := P) (w := w) (base := base) T
  refine F.ok sc_law (fun vs H Q E h => ?_) (fun cdv A outer s H vs Q E hr h => ?_)
  · obtain ⟨a, ns, rfl, _⟩ := h; rfl
  obtain ⟨a, ns, rfl, hS, hlen, q⟩ := h
  refine ⟨_, (pss_cons (ps_set (i := 1) sc_law.nd rfl (Or.inl rfl) (pe_c c__law_built hr (by decide) (by rfl) (pa_cons (pv 0) pa_nil)))
      (pss_cons (ps_set (i := 2) sc_law.nd rfl (Or.inl rfl) (pe_c c__law_due hr (by decide) (by rfl) (pa_cons (pv 1) pa_nil)))
      (pss_cons (ps_set (i := 3) sc_law.nd rfl (Or.inl rfl) (pe_lst (pa_cons (pe_c c_is_name hr (by decide) (by rfl) (pa_cons (pv 1) pa_nil)) (pa_cons (pe_c c_is_key hr (by decide) (by rfl) (pa_cons (pv 1) pa_nil)) (pa_cons (pe_c c_is_value hr (by decide) (by rfl) (pa_cons (pv 1) pa_nil)) (pa_cons (pe_c c_is_amount hr (by decide) (by rfl) (pa_cons (pv 1) pa_nil)) pa_nil))))))
      (pss_cons (ps_for PassesOwn.never rfl (pi_range1 (by rfl) T.z_range (pa_cons pe_int pa_nil)) (pg_name (i := 4) sc_law.nd rfl (Or.inl rfl)) (pss_cons (ps_if (PW.pt (pw_and (pt_val (pe_ix (kixl (K := K)) (pv 2) (pv 4) (fun _ _ => rfl))) (pw_and1 (pt_cmpR op_isnot_bl (pe_ix (kixl (K := K)) (pv 3) (pv 4) (fun _ _ => rfl)) pe_bl (nomark _))))) (pss_one (ps_ret pe_bl)) pss_nil)
      (pss_one (ps_if (PW.pt (pw_and (pt_not (pt_val (pe_ix (kixl (K := K)) (pv 2) (pv 4) (fun _ _ => rfl)))) (pw_and1 (pt_cmpR op_isnot_bl (pe_ix (kixl (K := K)) (pv 3) (pv 4) (fun _ _ => rfl)) pe_bl (nomark _))))) (pss_one (ps_ret pe_bl)) pss_nil))))
      (pss_one (ps_ret pe_bl)))))), ?_⟩
  walk_at "rds"
  refine ⟨a, ns, rfl, hS, fun H1 z s1 hz => ?_⟩
  walk_at "rds"
  refine ⟨hz, fun D hD => ?_⟩
  have hD1 : upd H1 D (.lst [.bl (nmL z.cps.toList), .bl (kyL z.cps.toList), .bl (vlL z.cps.toList), .bl (amL z.cps.toList)]) D = some (.lst ([nmL z.cps.toList, kyL z.cps.toList, vlL z.cps.toList, amL z.cps.toList].map V.bl)) := upd_same
  generalize upd H1 D (.lst [.bl (nmL z.cps.toList), .bl (kyL z.cps.toList), .bl (vlL z.cps.toList), .bl (amL z.cps.toList)]) = H2 at hD1
  walk_at "rds"
  refine ⟨by omega, fun H3 s3 => ?_⟩
  walk_at "rds"
  refine ⟨by omega, fun H4 s4 => ?_⟩
  walk_at "rds"
  refine ⟨by omega, fun H5 s5 => ?_⟩
  walk_at "rds"
  refine ⟨by omega, fun H6 s6 => ?_⟩
  walk_at "rds"
  intro B hB
  have hB1 : upd H6 B (.lst [.bl (nmL z.cps.toList), .bl (kyL z.cps.toList), .bl (vlL z.cps.toList), .bl (amL z.cps.toList)]) B = some (.lst ([nmL z.cps.toList, kyL z.cps.toList, vlL z.cps.toList, amL z.cps.toList].map V.bl)) := upd_same
  have hD6 := (same_upd (o := .lst [.bl (nmL z.cps.toList), .bl (kyL z.cps.toList), .bl (vlL z.cps.toList), .bl (amL z.cps.toList)]) hB) _ _ (s6 _ _ (s5 _ _ (s4 _ _ (s3 _ _ hD1))))
  generalize upd H6 B (.lst [.bl (nmL z.cps.toList), .bl (kyL z.cps.toList), .bl (vlL z.cps.toList), .bl (amL z.cps.toList)]) = H7 at hB1 hD6
  have hl4 : [nmL z.cps.toList, kyL z.cps.toList, vlL z.cps.toList, amL z.cps.toList].length = 4 := rfl
  generalize [nmL z.cps.toList, kyL z.cps.toList, vlL z.cps.toList, amL z.cps.toList] = bs at hB1 hD6 hl4
  walk_at "rds"
  refine for_it walk_range (Pv := fun i σ' H' => H' = H7 ∧ ∃ y, σ' = [some (.ref a), some (.str z), some (.ref D), some (.ref B), y]) ⟨rfl, _, rfl⟩ (fun _ _ _ _ _ => trivial) (fun i x σ' H8 H9 hi hp hy => ?_) (fun σ' H8 hp => ?_)
  · obtain ⟨rfl, y, rfl⟩ := hp
    obtain ⟨rfl, rfl⟩ := hy
    have hi4 : i < 4 := hi
    have g : (bs.map V.bl)[i]? = some (V.bl (bs[i]'(by omega))) := by rw [List.getElem?_map, List.getElem?_eq_getElem (by omega)]; rfl
    have e0 : (0 : Int) + (i : Int) = (i : Int) := by omega
    generalize bs[i]'(by omega) = b at g
    walk_at "rds"
    refine ⟨D, _, (i : Int), _, rfl, by show V.int (0 + (i : Int)) = V.int i; rw [e0], sq hD6, atI_nat g, ?_⟩
    walk_at "rds"
    cases b with
    | false =>
      refine ifF rfl ?_
      walk_at "rds"
      refine ⟨D, _, (i : Int), _, rfl, by show V.int (0 + (i : Int)) = V.int i; rw [e0], sq hD6, atI_nat g, ?_⟩
      walk_at "rds"
      refine ⟨B, _, (i : Int), _, rfl, by show V.int (0 + (i : Int)) = V.int i; rw [e0], sq hB1, atI_nat g, ?_⟩
      walk_at "rds"
      exact ⟨rfl, _, rfl⟩
    | true =>
      refine ifT rfl ?_
      walk_at "rds"
      refine ⟨B, _, (i : Int), _, rfl, by show V.int (0 + (i : Int)) = V.int i; rw [e0], sq hB1, atI_nat g, ?_⟩
      walk_at "rds"
      refine ⟨D, _, (i : Int), _, rfl, by show V.int (0 + (i : Int)) = V.int i; rw [e0], sq hD6, atI_nat g, ?_⟩
      walk_at "rds"
      exact ⟨rfl, _, rfl⟩
  · obtain ⟨rfl, y, rfl⟩ := hp
    walk_at "rds"
    exact q _
end

theorem fin {P : Program} {w : World} {K : PySem.W.Frag} {mg : Str → Option Value} {fa : Addr} (hfa : mg "law" = some (.ref fa)) (T : Txt K mg) :
    ∃ fd : FuncData, (∀ (s : Shared) (u : Value), BindsTo s fd ⟨[u], []⟩ [("script", u)]) ∧ ∀ base : Heap, K.In base → base.Ns mainGlobals mg → FnOk P w K mg base L2.CX0 4 fa fd ["script"] (spLaw K) := by
  obtain ⟨f, fd, F, hm, b⟩ := T.d_law.ex
  cases hfa.symm.trans hm
  refine ⟨fd, fun s u => ?_, fun base _ _ => ok_law F T⟩
  obtain ⟨oc, od, kV, doc, pm, an, cdv, ct, osl, rfl, l, _⟩ := F.ex
  exact .of_eq rfl

theorem all_mk {K : PySem.W.Frag} {h : Heap} {mg : Str → Option Value} (X : K.In h) (G : h.Ns mainGlobals mg)
    {f_is_printable : Addr} {od_is_printable an_is_printable : Option Addr} {sl_is_printable : Array (Option Value)} {oc_is_printable kV_is_printable dc_is_printable pm_is_printable cd_is_printable ct_is_printable : Value}
    {f_is_short : Addr} {od_is_short an_is_short : Option Addr} {sl_is_short : Array (Option Value)} {oc_is_short kV_is_short dc_is_short pm_is_short cd_is_short ct_is_short : Value}
    {f_is_decimal : Addr} {od_is_decimal an_is_decimal : Option Addr} {sl_is_decimal : Array (Option Value)} {oc_is_decimal kV_is_decimal dc_is_decimal pm_is_decimal cd_is_decimal ct_is_decimal : Value}
    {f_is_name : Addr} {od_is_name an_is_name : Option Addr} {sl_is_name : Array (Option Value)} {oc_is_name kV_is_name dc_is_name pm_is_name cd_is_name ct_is_name : Value}
    {f_is_key : Addr} {od_is_key an_is_key : Option Addr} {sl_is_key : Array (Option Value)} {oc_is_key kV_is_key dc_is_key pm_is_key cd_is_key ct_is_key : Value}
    {f_is_value : Addr} {od_is_value an_is_value : Option Addr} {sl_is_value : Array (Option Value)} {oc_is_value kV_is_value dc_is_value pm_is_value cd_is_value ct_is_value : Value}
    {f_is_amount : Addr} {od_is_amount an_is_amount : Option Addr} {sl_is_amount : Array (Option Value)} {oc_is_amount kV_is_amount dc_is_amount pm_is_amount cd_is_amount ct_is_amount : Value}
    {f_consists_of : Addr} {od_consists_of an_consists_of : Option Addr} {sl_consists_of : Array (Option Value)} {oc_consists_of kV_consists_of dc_consists_of pm_consists_of cd_consists_of ct_consists_of : Value}
    {f__law_cell : Addr} {od__law_cell an__law_cell : Option Addr} {sl__law_cell : Array (Option Value)} {oc__law_cell kV__law_cell dc__law_cell pm__law_cell cd__law_cell ct__law_cell : Value}
    {f__law_word : Addr} {od__law_word an__law_word : Option Addr} {sl__law_word : Array (Option Value)} {oc__law_word kV__law_word dc__law_word pm__law_word cd__law_word ct__law_word : Value}
    {f__law_printable : Addr} {od__law_printable an__law_printable : Option Addr} {sl__law_printable : Array (Option Value)} {oc__law_printable kV__law_printable dc__law_printable pm__law_printable cd__law_printable ct__law_printable : Value}
    {f__law_all_in : Addr} {od__law_all_in an__law_all_in : Option Addr} {sl__law_all_in : Array (Option Value)} {oc__law_all_in kV__law_all_in dc__law_all_in pm__law_all_in cd__law_all_in ct__law_all_in : Value}
    {f__law_built : Addr} {od__law_built an__law_built : Option Addr} {sl__law_built : Array (Option Value)} {oc__law_built kV__law_built dc__law_built pm__law_built cd__law_built ct__law_built : Value}
    {f__law_due : Addr} {od__law_due an__law_due : Option Addr} {sl__law_due : Array (Option Value)} {oc__law_due kV__law_due dc__law_due pm__law_due cd__law_due ct__law_due : Value}
    {f_law : Addr} {od_law an_law : Option Addr} {sl_law : Array (Option Value)} {oc_law kV_law dc_law pm_law cd_law ct_law : Value}
    {t_KEY_CHARACTERS : Tok}
    {t_LETTERS : Tok}
    {t_MOST_AMOUNT : Tok}
    {t_MOST_KEY : Tok}
    {t_MOST_NAME : Tok}
    {t_MOST_VALUE : Tok}
    (a_is_printable : PySem.W.nsIn K mainGlobals "is_printable" = some (some (.ref f_is_printable)))
    (l_is_printable : K.lookup f_is_printable = some ⟨oc_is_printable, od_is_printable, .func (PySem.W.fnOf "is_printable" "is_printable" (defArgs s_is_printable) (defBody s_is_printable) (defScope s_is_printable) .none kV_is_printable dc_is_printable pm_is_printable an_is_printable cd_is_printable ct_is_printable), sl_is_printable⟩)
    (e_is_printable : PySem.W.codeIn K cd_is_printable "is_printable" = true)
    (k_is_printable : PySem.W.keepIn K (.ref f_is_printable) = true)
    (a_is_short : PySem.W.nsIn K mainGlobals "is_short" = some (some (.ref f_is_short)))
    (l_is_short : K.lookup f_is_short = some ⟨oc_is_short, od_is_short, .func (PySem.W.fnOf "is_short" "is_short" (defArgs s_is_short) (defBody s_is_short) (defScope s_is_short) .none kV_is_short dc_is_short pm_is_short an_is_short cd_is_short ct_is_short), sl_is_short⟩)
    (e_is_short : PySem.W.codeIn K cd_is_short "is_short" = true)
    (k_is_short : PySem.W.keepIn K (.ref f_is_short) = true)
    (a_is_decimal : PySem.W.nsIn K mainGlobals "is_decimal" = some (some (.ref f_is_decimal)))
    (l_is_decimal : K.lookup f_is_decimal = some ⟨oc_is_decimal, od_is_decimal, .func (PySem.W.fnOf "is_decimal" "is_decimal" (defArgs s_is_decimal) (defBody s_is_decimal) (defScope s_is_decimal) .none kV_is_decimal dc_is_decimal pm_is_decimal an_is_decimal cd_is_decimal ct_is_decimal), sl_is_decimal⟩)
    (e_is_decimal : PySem.W.codeIn K cd_is_decimal "is_decimal" = true)
    (k_is_decimal : PySem.W.keepIn K (.ref f_is_decimal) = true)
    (a_is_name : PySem.W.nsIn K mainGlobals "is_name" = some (some (.ref f_is_name)))
    (l_is_name : K.lookup f_is_name = some ⟨oc_is_name, od_is_name, .func (PySem.W.fnOf "is_name" "is_name" (defArgs s_is_name) (defBody s_is_name) (defScope s_is_name) .none kV_is_name dc_is_name pm_is_name an_is_name cd_is_name ct_is_name), sl_is_name⟩)
    (e_is_name : PySem.W.codeIn K cd_is_name "is_name" = true)
    (k_is_name : PySem.W.keepIn K (.ref f_is_name) = true)
    (a_is_key : PySem.W.nsIn K mainGlobals "is_key" = some (some (.ref f_is_key)))
    (l_is_key : K.lookup f_is_key = some ⟨oc_is_key, od_is_key, .func (PySem.W.fnOf "is_key" "is_key" (defArgs s_is_key) (defBody s_is_key) (defScope s_is_key) .none kV_is_key dc_is_key pm_is_key an_is_key cd_is_key ct_is_key), sl_is_key⟩)
    (e_is_key : PySem.W.codeIn K cd_is_key "is_key" = true)
    (k_is_key : PySem.W.keepIn K (.ref f_is_key) = true)
    (a_is_value : PySem.W.nsIn K mainGlobals "is_value" = some (some (.ref f_is_value)))
    (l_is_value : K.lookup f_is_value = some ⟨oc_is_value, od_is_value, .func (PySem.W.fnOf "is_value" "is_value" (defArgs s_is_value) (defBody s_is_value) (defScope s_is_value) .none kV_is_value dc_is_value pm_is_value an_is_value cd_is_value ct_is_value), sl_is_value⟩)
    (e_is_value : PySem.W.codeIn K cd_is_value "is_value" = true)
    (k_is_value : PySem.W.keepIn K (.ref f_is_value) = true)
    (a_is_amount : PySem.W.nsIn K mainGlobals "is_amount" = some (some (.ref f_is_amount)))
    (l_is_amount : K.lookup f_is_amount = some ⟨oc_is_amount, od_is_amount, .func (PySem.W.fnOf "is_amount" "is_amount" (defArgs s_is_amount) (defBody s_is_amount) (defScope s_is_amount) .none kV_is_amount dc_is_amount pm_is_amount an_is_amount cd_is_amount ct_is_amount), sl_is_amount⟩)
    (e_is_amount : PySem.W.codeIn K cd_is_amount "is_amount" = true)
    (k_is_amount : PySem.W.keepIn K (.ref f_is_amount) = true)
    (a_consists_of : PySem.W.nsIn K mainGlobals "consists_of" = some (some (.ref f_consists_of)))
    (l_consists_of : K.lookup f_consists_of = some ⟨oc_consists_of, od_consists_of, .func (PySem.W.fnOf "consists_of" "consists_of" (defArgs s_consists_of) (defBody s_consists_of) (defScope s_consists_of) .none kV_consists_of dc_consists_of pm_consists_of an_consists_of cd_consists_of ct_consists_of), sl_consists_of⟩)
    (e_consists_of : PySem.W.codeIn K cd_consists_of "consists_of" = true)
    (k_consists_of : PySem.W.keepIn K (.ref f_consists_of) = true)
    (a__law_cell : PySem.W.nsIn K mainGlobals "_law_cell" = some (some (.ref f__law_cell)))
    (l__law_cell : K.lookup f__law_cell = some ⟨oc__law_cell, od__law_cell, .func (PySem.W.fnOf "_law_cell" "_law_cell" (defArgs s__law_cell) (defBody s__law_cell) (defScope s__law_cell) .none kV__law_cell dc__law_cell pm__law_cell an__law_cell cd__law_cell ct__law_cell), sl__law_cell⟩)
    (e__law_cell : PySem.W.codeIn K cd__law_cell "_law_cell" = true)
    (k__law_cell : PySem.W.keepIn K (.ref f__law_cell) = true)
    (a__law_word : PySem.W.nsIn K mainGlobals "_law_word" = some (some (.ref f__law_word)))
    (l__law_word : K.lookup f__law_word = some ⟨oc__law_word, od__law_word, .func (PySem.W.fnOf "_law_word" "_law_word" (defArgs s__law_word) (defBody s__law_word) (defScope s__law_word) .none kV__law_word dc__law_word pm__law_word an__law_word cd__law_word ct__law_word), sl__law_word⟩)
    (e__law_word : PySem.W.codeIn K cd__law_word "_law_word" = true)
    (k__law_word : PySem.W.keepIn K (.ref f__law_word) = true)
    (a__law_printable : PySem.W.nsIn K mainGlobals "_law_printable" = some (some (.ref f__law_printable)))
    (l__law_printable : K.lookup f__law_printable = some ⟨oc__law_printable, od__law_printable, .func (PySem.W.fnOf "_law_printable" "_law_printable" (defArgs s__law_printable) (defBody s__law_printable) (defScope s__law_printable) .none kV__law_printable dc__law_printable pm__law_printable an__law_printable cd__law_printable ct__law_printable), sl__law_printable⟩)
    (e__law_printable : PySem.W.codeIn K cd__law_printable "_law_printable" = true)
    (k__law_printable : PySem.W.keepIn K (.ref f__law_printable) = true)
    (a__law_all_in : PySem.W.nsIn K mainGlobals "_law_all_in" = some (some (.ref f__law_all_in)))
    (l__law_all_in : K.lookup f__law_all_in = some ⟨oc__law_all_in, od__law_all_in, .func (PySem.W.fnOf "_law_all_in" "_law_all_in" (defArgs s__law_all_in) (defBody s__law_all_in) (defScope s__law_all_in) .none kV__law_all_in dc__law_all_in pm__law_all_in an__law_all_in cd__law_all_in ct__law_all_in), sl__law_all_in⟩)
    (e__law_all_in : PySem.W.codeIn K cd__law_all_in "_law_all_in" = true)
    (k__law_all_in : PySem.W.keepIn K (.ref f__law_all_in) = true)
    (a__law_built : PySem.W.nsIn K mainGlobals "_law_built" = some (some (.ref f__law_built)))
    (l__law_built : K.lookup f__law_built = some ⟨oc__law_built, od__law_built, .func (PySem.W.fnOf "_law_built" "_law_built" (defArgs s__law_built) (defBody s__law_built) (defScope s__law_built) .none kV__law_built dc__law_built pm__law_built an__law_built cd__law_built ct__law_built), sl__law_built⟩)
    (e__law_built : PySem.W.codeIn K cd__law_built "_law_built" = true)
    (k__law_built : PySem.W.keepIn K (.ref f__law_built) = true)
    (a__law_due : PySem.W.nsIn K mainGlobals "_law_due" = some (some (.ref f__law_due)))
    (l__law_due : K.lookup f__law_due = some ⟨oc__law_due, od__law_due, .func (PySem.W.fnOf "_law_due" "_law_due" (defArgs s__law_due) (defBody s__law_due) (defScope s__law_due) .none kV__law_due dc__law_due pm__law_due an__law_due cd__law_due ct__law_due), sl__law_due⟩)
    (e__law_due : PySem.W.codeIn K cd__law_due "_law_due" = true)
    (k__law_due : PySem.W.keepIn K (.ref f__law_due) = true)
    (a_law : PySem.W.nsIn K mainGlobals "law" = some (some (.ref f_law)))
    (l_law : K.lookup f_law = some ⟨oc_law, od_law, .func (PySem.W.fnOf "law" "law" (defArgs s_law) (defBody s_law) (defScope s_law) .none kV_law dc_law pm_law an_law cd_law ct_law), sl_law⟩)
    (e_law : PySem.W.codeIn K cd_law "law" = true)
    (k_law : PySem.W.keepIn K (.ref f_law) = true)
    (a_KEY_CHARACTERS : PySem.W.nsIn K mainGlobals "KEY_CHARACTERS" = some (some (.str "abcdefghijklmnopqrstuvwxyz.0123456789" t_KEY_CHARACTERS)))
    (a_LETTERS : PySem.W.nsIn K mainGlobals "LETTERS" = some (some (.str "abcdefghijklmnopqrstuvwxyz" t_LETTERS)))
    (a_MOST_AMOUNT : PySem.W.nsIn K mainGlobals "MOST_AMOUNT" = some (some (.int 12 t_MOST_AMOUNT)))
    (a_MOST_KEY : PySem.W.nsIn K mainGlobals "MOST_KEY" = some (some (.int 20 t_MOST_KEY)))
    (a_MOST_NAME : PySem.W.nsIn K mainGlobals "MOST_NAME" = some (some (.int 12 t_MOST_NAME)))
    (a_MOST_VALUE : PySem.W.nsIn K mainGlobals "MOST_VALUE" = some (some (.int 40 t_MOST_VALUE)))
    (z_all : PySem.W.nsIn K mainGlobals "all" = some none)
    (z_int : PySem.W.nsIn K mainGlobals "int" = some none)
    (z_isinstance : PySem.W.nsIn K mainGlobals "isinstance" = some none)
    (z_len : PySem.W.nsIn K mainGlobals "len" = some none)
    (z_range : PySem.W.nsIn K mainGlobals "range" = some none)
    (z_str : PySem.W.nsIn K mainGlobals "str" = some none) : Txt K mg :=
  { d_is_printable := ⟨_, _, (fun_mk l_is_printable e_is_printable k_is_printable), PySem.W.mg_of X G a_is_printable, ((fun_mk (st := s_is_printable) l_is_printable e_is_printable k_is_printable).binds (ps := ["value"]) fun _ _ _ _ _ _ us hl => match us, hl with | [_], _ => rfl)⟩,
    d_is_short := ⟨_, _, (fun_mk l_is_short e_is_short k_is_short), PySem.W.mg_of X G a_is_short, ((fun_mk (st := s_is_short) l_is_short e_is_short k_is_short).binds (ps := ["value", "most"]) fun _ _ _ _ _ _ us hl => match us, hl with | [_, _], _ => rfl)⟩,
    d_is_decimal := ⟨_, _, (fun_mk l_is_decimal e_is_decimal k_is_decimal), PySem.W.mg_of X G a_is_decimal, ((fun_mk (st := s_is_decimal) l_is_decimal e_is_decimal k_is_decimal).binds (ps := ["word"]) fun _ _ _ _ _ _ us hl => match us, hl with | [_], _ => rfl)⟩,
    d_is_name := ⟨_, _, (fun_mk l_is_name e_is_name k_is_name), PySem.W.mg_of X G a_is_name, ((fun_mk (st := s_is_name) l_is_name e_is_name k_is_name).binds (ps := ["word"]) fun _ _ _ _ _ _ us hl => match us, hl with | [_], _ => rfl)⟩,
    d_is_key := ⟨_, _, (fun_mk l_is_key e_is_key k_is_key), PySem.W.mg_of X G a_is_key, ((fun_mk (st := s_is_key) l_is_key e_is_key k_is_key).binds (ps := ["word"]) fun _ _ _ _ _ _ us hl => match us, hl with | [_], _ => rfl)⟩,
    d_is_value := ⟨_, _, (fun_mk l_is_value e_is_value k_is_value), PySem.W.mg_of X G a_is_value, ((fun_mk (st := s_is_value) l_is_value e_is_value k_is_value).binds (ps := ["word"]) fun _ _ _ _ _ _ us hl => match us, hl with | [_], _ => rfl)⟩,
    d_is_amount := ⟨_, _, (fun_mk l_is_amount e_is_amount k_is_amount), PySem.W.mg_of X G a_is_amount, ((fun_mk (st := s_is_amount) l_is_amount e_is_amount k_is_amount).binds (ps := ["word"]) fun _ _ _ _ _ _ us hl => match us, hl with | [_], _ => rfl)⟩,
    d_consists_of := ⟨_, _, (fun_mk l_consists_of e_consists_of k_consists_of), PySem.W.mg_of X G a_consists_of, ((fun_mk (st := s_consists_of) l_consists_of e_consists_of k_consists_of).binds (ps := ["word", "characters", "most"]) fun _ _ _ _ _ _ us hl => match us, hl with | [_, _, _], _ => rfl)⟩,
    d__law_cell := ⟨_, _, (fun_mk l__law_cell e__law_cell k__law_cell), PySem.W.mg_of X G a__law_cell, ((fun_mk (st := s__law_cell) l__law_cell e__law_cell k__law_cell).binds (ps := ["script", "k"]) fun _ _ _ _ _ _ us hl => match us, hl with | [_, _], _ => rfl)⟩,
    d__law_word := ⟨_, _, (fun_mk l__law_word e__law_word k__law_word), PySem.W.mg_of X G a__law_word, ((fun_mk (st := s__law_word) l__law_word e__law_word k__law_word).binds (ps := ["size", "chars", "seed", "step"]) fun _ _ _ _ _ _ us hl => match us, hl with | [_, _, _, _], _ => rfl)⟩,
    d__law_printable := ⟨_, _, (fun_mk l__law_printable e__law_printable k__law_printable), PySem.W.mg_of X G a__law_printable, ((fun_mk (st := s__law_printable) l__law_printable e__law_printable k__law_printable).binds (ps := []) fun _ _ _ _ _ _ us hl => match us, hl with | [], _ => rfl)⟩,
    d__law_all_in := ⟨_, _, (fun_mk l__law_all_in e__law_all_in k__law_all_in), PySem.W.mg_of X G a__law_all_in, ((fun_mk (st := s__law_all_in) l__law_all_in e__law_all_in k__law_all_in).binds (ps := ["word", "chars"]) fun _ _ _ _ _ _ us hl => match us, hl with | [_, _], _ => rfl)⟩,
    d__law_built := ⟨_, _, (fun_mk l__law_built e__law_built k__law_built), PySem.W.mg_of X G a__law_built, ((fun_mk (st := s__law_built) l__law_built e__law_built k__law_built).binds (ps := ["script"]) fun _ _ _ _ _ _ us hl => match us, hl with | [_], _ => rfl)⟩,
    d__law_due := ⟨_, _, (fun_mk l__law_due e__law_due k__law_due), PySem.W.mg_of X G a__law_due, ((fun_mk (st := s__law_due) l__law_due e__law_due k__law_due).binds (ps := ["word"]) fun _ _ _ _ _ _ us hl => match us, hl with | [_], _ => rfl)⟩,
    d_law := ⟨_, _, (fun_mk l_law e_law k_law), PySem.W.mg_of X G a_law, ((fun_mk (st := s_law) l_law e_law k_law).binds (ps := ["script"]) fun _ _ _ _ _ _ us hl => match us, hl with | [_], _ => rfl)⟩,
    c_KEY_CHARACTERS := ⟨_, PySem.W.mg_of X G a_KEY_CHARACTERS, _, rfl⟩,
    c_LETTERS := ⟨_, PySem.W.mg_of X G a_LETTERS, _, rfl⟩,
    c_MOST_AMOUNT := ⟨_, PySem.W.mg_of X G a_MOST_AMOUNT, _, rfl⟩,
    c_MOST_KEY := ⟨_, PySem.W.mg_of X G a_MOST_KEY, _, rfl⟩,
    c_MOST_NAME := ⟨_, PySem.W.mg_of X G a_MOST_NAME, _, rfl⟩,
    c_MOST_VALUE := ⟨_, PySem.W.mg_of X G a_MOST_VALUE, _, rfl⟩,
    z_all := PySem.W.mg_none_of X G z_all,
    z_int := PySem.W.mg_none_of X G z_int,
    z_isinstance := PySem.W.mg_none_of X G z_isinstance,
    z_len := PySem.W.mg_none_of X G z_len,
    z_range := PySem.W.mg_none_of X G z_range,
    z_str := PySem.W.mg_none_of X G z_str }
end Law
open PySem PySem.W PyProof.Rows
set_option maxRecDepth 100000 in
set_option maxHeartbeats 0 in
theorem PySem.Challenge.cw_oathledger_k41_words_of_commands_holds : PySem.Challenge.rw_oathledger_k41_words_of_commands.Holds := by
  w_on; o_law; k_head; (case hw => w_witness2)
  k_fill
  refine L2.walk_of (l := PySem.Challenge.rw_oathledger_k41_words_of_commands) (n := 63) (k := 4) (x := "script") (CX := fun _ => L2.CX0) (sp := fun w => Law.spLaw _) rfl (by decide) rfl ⟨rfl, by decide, by decide⟩ (fun w h Y => PySem.W.kIn_of Y) ?F (fun _ _ a ns hl _ hS => ⟨a, ns, rfl, hS, hl, fun _ => rfl⟩) (fun _ _ _ _ _ h => h)
  case F =>
    intro w mg fa h KX G hmg
    refine' Law.fin hmg (Law.all_mk KX G ?a_is_printable ?l_is_printable ?e_is_printable ?k_is_printable ?a_is_short ?l_is_short ?e_is_short ?k_is_short ?a_is_decimal ?l_is_decimal ?e_is_decimal ?k_is_decimal ?a_is_name ?l_is_name ?e_is_name ?k_is_name ?a_is_key ?l_is_key ?e_is_key ?k_is_key ?a_is_value ?l_is_value ?e_is_value ?k_is_value ?a_is_amount ?l_is_amount ?e_is_amount ?k_is_amount ?a_consists_of ?l_consists_of ?e_consists_of ?k_consists_of ?a__law_cell ?l__law_cell ?e__law_cell ?k__law_cell ?a__law_word ?l__law_word ?e__law_word ?k__law_word ?a__law_printable ?l__law_printable ?e__law_printable ?k__law_printable ?a__law_all_in ?l__law_all_in ?e__law_all_in ?k__law_all_in ?a__law_built ?l__law_built ?e__law_built ?k__law_built ?a__law_due ?l__law_due ?e__law_due ?k__law_due ?a_law ?l_law ?e_law ?k_law ?a_KEY_CHARACTERS ?a_LETTERS ?a_MOST_AMOUNT ?a_MOST_KEY ?a_MOST_NAME ?a_MOST_VALUE ?z_all ?z_int ?z_isinstance ?z_len ?z_range ?z_str)
    (case a_is_printable => k_is)
    (case l_is_printable => k_is)
    (case e_is_printable => k_is)
    (case k_is_printable => k_is)
    (case a_is_short => k_is)
    (case l_is_short => k_is)
    (case e_is_short => k_is)
    (case k_is_short => k_is)
    (case a_is_decimal => k_is)
    (case l_is_decimal => k_is)
    (case e_is_decimal => k_is)
    (case k_is_decimal => k_is)
    (case a_is_name => k_is)
    (case l_is_name => k_is)
    (case e_is_name => k_is)
    (case k_is_name => k_is)
    (case a_is_key => k_is)
    (case l_is_key => k_is)
    (case e_is_key => k_is)
    (case k_is_key => k_is)
    (case a_is_value => k_is)
    (case l_is_value => k_is)
    (case e_is_value => k_is)
    (case k_is_value => k_is)
    (case a_is_amount => k_is)
    (case l_is_amount => k_is)
    (case e_is_amount => k_is)
    (case k_is_amount => k_is)
    (case a_consists_of => k_is)
    (case l_consists_of => k_is)
    (case e_consists_of => k_is)
    (case k_consists_of => k_is)
    (case a__law_cell => k_is)
    (case l__law_cell => k_is)
    (case e__law_cell => k_is)
    (case k__law_cell => k_is)
    (case a__law_word => k_is)
    (case l__law_word => k_is)
    (case e__law_word => k_is)
    (case k__law_word => k_is)
    (case a__law_printable => k_is)
    (case l__law_printable => k_is)
    (case e__law_printable => k_is)
    (case k__law_printable => k_is)
    (case a__law_all_in => k_is)
    (case l__law_all_in => k_is)
    (case e__law_all_in => k_is)
    (case k__law_all_in => k_is)
    (case a__law_built => k_is)
    (case l__law_built => k_is)
    (case e__law_built => k_is)
    (case k__law_built => k_is)
    (case a__law_due => k_is)
    (case l__law_due => k_is)
    (case e__law_due => k_is)
    (case k__law_due => k_is)
    (case a_law => k_is)
    (case l_law => k_is)
    (case e_law => k_is)
    (case k_law => k_is)
    (case a_KEY_CHARACTERS => k_is)
    (case a_LETTERS => k_is)
    (case a_MOST_AMOUNT => k_is)
    (case a_MOST_KEY => k_is)
    (case a_MOST_NAME => k_is)
    (case a_MOST_VALUE => k_is)
    (case z_all => k_is)
    (case z_int => k_is)
    (case z_isinstance => k_is)
    (case z_len => k_is)
    (case z_range => k_is)
    (case z_str => k_is)

