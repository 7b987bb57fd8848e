--@ins
import PyProof.Rows.All
import Wide.All
import OpenK.AllK
import Wide.FinOn
import HandS.ForMost
import HandS.Walk
import HandS.Flow
import HandS.Codes
import HandS.IsInst
import HandS.Conv
import HandS.StrMore
import PyProof.MeetsSeq2
import PyProof.DictTable
import HandS.Wide
import HandS.TupAny
import HandS.More
import HandS.Dict
import HandS.ForExc
import HandS.ExcIs
import HandS.ExcField
import HandS.DeepEq
import HandS.TupLe
import HandS.Steps
import HandS.ExcInit
import HandS.SortRule
import HandS.SortKw
import HandS.Keys
import KE.SortKeyHeap
import KE.DataMinMax
import KE.SortData
import HandS.RaiseMore
import HandS.Zip
import HandS.DictSubView
import HandS.Deep
import HandS.Sort
import HandS.SetKeys
import HandS.Strs
import HandS.SetFor
import HandS.DictComp
import HandS.Style
import PySem.Challenge.RW_oathledger_k45_whole_supply_is_conserved
set_option Elab.async false
set_option linter.all false
set_option maxRecDepth 100000
set_option maxHeartbeats 4000000
namespace Law
open PySem PySem.Spec PyProof.Rows L2
open C8 (Cal Met Mak pe_c pe_mk pe_mt pe_mt0 pe_gc pss_cut tCut)
/-! ### a def of the top, by its name -/
structure DefOk (K : PySem.W.Frag) (mg : Str → Option Value) (x : Str) (st : Stmt) (ps : List Str) : Prop where
  ex : ∃ (f : Addr) (fd : FuncData), L2.Fun K x x st f fd ∧ mg x = some (.ref f) ∧ Binds K fd ps []
section
variable {P : Program} {w : World} {K : PySem.W.Frag} {mg : Str → Option Value} {base : Heap}
/-- a def's promise, by its body -/
theorem cal {x : Str} {st : Stmt} {N ps : List Str} {k : Nat} {sp : Sp} (D : DefOk K mg x st ps) (S : FnScope N ps (defScope st)) (len : ∀ vs H Q E, sp vs H Q E → vs.length = ps.length)
    (hbody : ∀ (f : Addr) (cdv : Value) (A : Around) (outer : List Env) (s : Shared) (H : Hp) (vs : List V) (Q : VK) (E : XK), Room k (A.deeper (envOfC x (defScope st) s.heap.objs.size f cdv)) → sp vs H Q E →
      ∃ t, PSs (cxOf L2.CX0 P w K mg base N x (defScope st) f cdv A outer s H E).nox (defBody st) t ∧ t { nx := fun _ H' => Q .non H', rt := Q } (start N vs) H) : Cal P w K mg base (k + 1) x sp [] := by
  obtain ⟨f, fd, F, hm, b⟩ := D.ex
  exact ⟨f, fd, ps, [], F.ok S len (fun cdv A outer s H vs Q E hr h => hbody f cdv A outer s H vs Q E hr h), hm, F.kp, b, .nil⟩
/-- a call without arguments -/
theorem pe_c0 {X : Cx} {k j : Nat} {x : Str} {sp : Sp} {dvs : List V} {p pos : Pos} (c : Cal X.prog X.w X.K X.mg X.base k x sp dvs) (hr : Room j X.A) (hk : k ≤ j) (hg : Gl X x)
    (hdb : (x == ("__debug__" : Str)) = false := by decide) : PE X (.Call (.Name x p) [] [] pos) (tCall sp dvs L2.E0 tNil) := by
  obtain ⟨f, fd, ps, ds, F, hm, kp, b, d⟩ := c.ex
  exact pe_call0 F (hr.mono hk) hg hm kp b d pass0 hdb
end
/-! ### small things -/
theorem same_upd {H : Hp} {p : Addr} {o : HO} (h : H p = none) : Same H (upd H p o) := fun b x e => by
  rw [upd_ne (ne_of_none e h)]
  exact e
theorem same_mut {H H' : Hp} {p : Addr} {o : HO} (s : Same H H') (h : H p = none) : Same H (upd H' p o) := fun b x e => by
  rw [upd_ne (ne_of_none e h)]
  exact s b x e
theorem sz1000 {n : Nat} (h : n ≤ 100000) : n ≤ sizeLine := Nat.le_trans h (by decide)
theorem sz1000' {n : Nat} (h : n < 100000) : n < sizeLine := Nat.lt_of_lt_of_le h (by decide)
theorem sz1000'' {n : Nat} (h : n ≤ 16777216) : n ≤ sizeLine := by rw [sizeLine_eq]; exact h
theorem sq {K : PySem.W.Frag} {H : Hp} {a : Addr} {xs : List V} (h : H a = some (.lst xs)) : SqL K H a xs := .inl (.inl h)
def spLaw (K : PySem.W.Frag) : Sp := fun vs H Q _ => ∃ (a : Addr) (ns : List Int), vs = [.ref a] ∧ SqL K H a (ns.map V.int) ∧ ns.length ≤ 63 ∧ ∀ H', Q (.bl true) H'
/-! ### the reading, step by step -/
local macro_rules | `(tactic| walk_at "sd") => `(tactic| first
  | omega
  | decide
  | assumption
  | (show _ ∨ _; exact Or.inl ⟨by omega, by omega⟩)
  | (show _ ∨ _; exact Or.inr ⟨by omega, by omega⟩)
  | (show _ ∧ _; exact ⟨by omega, by omega⟩)
  | (show _ ∧ _; exact ⟨by decide, by decide⟩)
  | exact sz1000 (by omega)
  | exact sz1000' (by omega))
local macro_rules | `(tactic| walk_at "sz") => `(tactic| first
  | exact sz1000 (Nat.le_of_ble_eq_true rfl)
  | exact sz1000 (by omega)
  | exact sz1000'' (by omega)
  | assumption)
/-- one step of a reading: a slot, an operator upon numbers, a call upon values -/
local macro_rules | `(tactic| walk_at "rd") => `(tactic| first
  | refine ⟨_, (rfl : (_ : List (Option V))[_]? = some (some _)), ?_⟩
  | refine ⟨_, _, (rfl : (_ : V) = _), (rfl : (_ : V) = _), (by walk_at "sd" : (_ : Prop)), ?_⟩
  | refine ⟨_, _, (rfl : (_ : V) = _), (rfl : (_ : V) = _), ?_⟩
  | refine ⟨_, (rfl : (_ : List V) = _), (by walk_at "sd" : (_ : Prop)), (by walk_at "sd" : (_ : Prop)), ?_⟩
  | refine ⟨_, (rfl : (_ : List V) = _), ?_⟩
  | refine ⟨_, (rfl : (_ : V) = _), ?_⟩
  | refine .inl ⟨_, (rfl : (_ : List V) = _), ?_⟩
  | refine ⟨⟨_, (rfl : (_ : V) = _)⟩, ?_⟩
  | refine ⟨(rfl : scal _ _ = true), ?_⟩
  | refine ⟨(rfl : V.non = V.non), ?_⟩
  | refine ⟨(by walk_at "sz" : (_ ≤ sizeLine)), ?_⟩)
local macro_rules | `(tactic| walk_at "rds") => `(tactic| repeat walk_at "rd")
theorem tyes {σ : L2.St} {H : Hp} {A B : Hp → Prop} (h : A H) : tYes σ H (fun b H3 => if b = true then A H3 else B H3) := by
  show (if true = true then A H else B H)
  rw [if_pos rfl]
  exact h
theorem sum_ones {ys : List Str} (h : ∀ y ∈ ys, y.length = 1) : (ys.map (fun x => x.length)).sum = ys.length := by
  induction ys with
  | nil => rfl
  | cons y r ih =>
    rw [List.map_cons, List.sum_cons, ih (fun z hz => h z (List.mem_cons_of_mem _ hz)), h y List.mem_cons_self, List.length_cons]
    omega
theorem chr_at {z : Str} {i : Int} (h0 : 0 ≤ i) (h1 : i < z.length) : ∃ c, atI z.cps.toList i = some c := by
  obtain ⟨j, rfl⟩ := Int.eq_ofNat_of_zero_le h0
  have hj : j < z.cps.toList.length := by
    rw [Array.length_toList]
    exact Int.ofNat_lt.mp h1
  exact ⟨z.cps.toList[j], atI_nat (List.getElem?_eq_getElem hj)⟩
/-- what an append to a tracked new list leaves -/
theorem lst_app {α : Type} {H : Hp} {D : Addr} {f : α → V} {ys : List α} {y : α} : upd H D (.lst (ys.map f ++ [f y])) D = some (.lst ((ys ++ [y]).map f)) := by
  rw [upd_same, List.map_append]
  rfl
theorem rg40 {n : Nat} (h : n ≤ 100000) : RgC 0 n 40 ((n + 39) / 40) := by
  have e : Builtin.Range.rangeSize 0 (n : Int) 40 = (((n + 39) / 40 : Nat) : Int) := by
    rw [rangeSize_pos (by decide) (by omega)]
    omega
  refine ⟨by decide, by decide, ?_, e⟩
  unfold Builtin.Range.small
  rw [e]
  unfold Builtin.Range.rangeFitsLong
  simp
  omega
theorem isi {K : PySem.W.Frag} {H : Hp} {x : V} {T1 T2 : String} {b : Bool} {Q : VK} (ty : TyX K H x (.type T1)) (e : kitB T1 T2 = some b) (q : Q (.bl b) H) : rIsi K [x, .ty T2] H Q :=
  ⟨x, .ty T2, _, _, b, rfl, .ty _, ty, kit_ty e, q⟩
theorem ifT {c : Bool} {A B : Prop} (hc : c = true) (h : A) : if c = true then A else B := by
  rw [if_pos hc]
  exact h
theorem ifF {c : Bool} {A B : Prop} (hc : c = false) (h : B) : if c = true then A else B := by
  rw [if_neg (by rw [hc]; decide)]
  exact h
local macro_rules | `(tactic| walk_at "isk") => `(tactic| first
  | exact .base (.int _) | exact .base (.str _) | exact .base (.bl _) | exact .base .non
  | exact .base (.lst (by assumption)) | exact .base (.tup (by assumption)) | exact .base (.dK (by assumption)))
/-- isinstance(x, T) with a built-in T; the object's fact stands in the context -/
local macro_rules | `(tactic| walk_at "isi") => `(tactic| first
  | refine ⟨_, .ty _, _, _, true, (rfl : (_ : List V) = _), .ty _, (by walk_at "isk"), kit_ty (by decide +kernel), ?_⟩
  | refine ⟨_, .ty _, _, _, false, (rfl : (_ : List V) = _), .ty _, (by walk_at "isk"), kit_ty (by decide +kernel), ?_⟩)
/-! ### classes of the top -/
structure MethOk (K : PySem.W.Frag) (C : Addr) (m qual : Str) (st : Stmt) (ps : List Str) : Prop where
  ex : ∃ (f : Addr) (fd : FuncData), Meth K C m f ∧ L2.Fun K m qual st f fd ∧ Binds K fd ps []
structure MakOk (K : PySem.W.Frag) (C : Addr) (qual : Str) (st : Stmt) (ps : List Str) : Prop where
  ex : ∃ (f : Addr) (fd : FuncData), Mk K C f ∧ L2.Fun K "__init__" qual st f fd ∧ Binds K fd ps []
section
variable {P : Program} {w : World} {K : PySem.W.Frag} {mg : Str → Option Value} {base : Heap}
theorem met {C : Addr} {m qual : Str} {st : Stmt} {N ps : List Str} {k : Nat} {sp : Sp} (c : Cls K C) (D : MethOk K C m qual st ps) (S : FnScope N ps (defScope st)) (len : ∀ vs H Q E, sp vs H Q E → vs.length = ps.length)
    (hbody : ∀ (f : Addr) (cdv : Value) (A : Around) (outer : List Env) (s : Shared) (H : Hp) (vs : List V) (Q : VK) (E : XK), Room k (A.deeper (envOfC qual (defScope st) s.heap.objs.size f cdv)) → sp vs H Q E →
      ∃ t, PSs (cxOf L2.CX0 P w K mg base N qual (defScope st) f cdv A outer s H E).nox (defBody st) t ∧ t { nx := fun _ H' => Q .non H', rt := Q } (start N vs) H) : Met P w K mg base (k + 1) C m sp [] := by
  obtain ⟨f, fd, M, F, b⟩ := D.ex
  exact ⟨f, fd, ps, [], c, M, F.ok S len (fun cdv A outer s H vs Q E hr h => hbody f cdv A outer s H vs Q E hr h), b, .nil⟩
theorem mak {C : Addr} {x qual : Str} {st : Stmt} {N ps : List Str} {k : Nat} {sp : Sp} (hm : mg x = some (.ref C)) (D : MakOk K C qual st ps) (S : FnScope N ps (defScope st)) (len : ∀ vs H Q E, sp vs H Q E → vs.length = ps.length)
    (hbody : ∀ (f : Addr) (cdv : Value) (A : Around) (outer : List Env) (s : Shared) (H : Hp) (vs : List V) (Q : VK) (E : XK), Room k (A.deeper (envOfC qual (defScope st) s.heap.objs.size f cdv)) → sp vs H Q E →
      ∃ t, PSs (cxOf L2.CX0 P w K mg base N qual (defScope st) f cdv A outer s H E).nox (defBody st) t ∧ t { nx := fun _ H' => Q .non H', rt := Q } (start N vs) H) : Mak P w K mg base (k + 1) x C sp [] := by
  obtain ⟨f, fd, M, F, b⟩ := D.ex
  exact ⟨f, fd, ps, [], M, F.ok S len (fun cdv A outer s H vs Q E hr h => hbody f cdv A outer s H vs Q E hr h), hm, b, .nil⟩
end
/-- a tuple of the top, in the written part -/
def KTup (K : PySem.W.Frag) (a : Addr) (xs : List V) : Prop := ∃ o its n, K.lookup a = some o ∧ o.cls = Value.type "tuple" ∧ o.data = Data.seq its n ∧ its.size ≤ sizeLine ∧ Vals xs its.toList
theorem pe_mk0 {X : Cx} {k j : Nat} {x : Str} {C : Addr} {sp : Sp} {dvs : List V} {p pos : Pos} (c : Mak X.prog X.w X.K X.mg X.base k x C sp dvs) (hr : Room j X.A) (hk : k + 1 ≤ j) (hg : Gl X x)
    (hdb : (x == ("__debug__" : Str)) = false := by decide) : PE X (.Call (.Name x p) [] [] pos) (tMake C sp dvs L2.E0 tNil) := by
  obtain ⟨f, fd, ps, ds, M, F, hm, b, d⟩ := c.ex
  exact pe_make0 M F (hr.mono hk) hg hm b d pass0 hdb
/-! ### rules whose written part is named K (a comprehension's context is another one) -/
section
variable {X : Cx} {K : PySem.W.Frag}
theorem kin (h : X.K = K := by rfl) : OpR X (compareOp .In) (rIn K false) := by subst h; exact op_in_seq
theorem knin (h : X.K = K := by rfl) : OpR X (compareOp .NotIn) (rIn K true) := by subst h; exact op_notIn_seq
theorem kixl (h : X.K = K := by rfl) : IxR X (rIxL K) := by subst h; exact ix_list
theorem kixt (h : X.K = K := by rfl) : IxR X (rIxT K) := by subst h; exact ix_tup
theorem ksll (h : X.K = K := by rfl) : SlR X (rSlL K) := by subst h; exact sl_list
theorem kisi (h : X.K = K := by rfl) : CallR X (.builtin "isinstance") (rIsi K) := by subst h; exact call_isi
theorem kfld {o : Expr} {f : Str} {pos : Pos} {ta : TE} (he : PE X o ta) (hb : attributeBase o f X.env (eval o X.env) = eval o X.env := by rfl) (h : X.K = K := by rfl) : PE X (.Attribute o f pos) (tFld K ta f) := by subst h; exact pe_fld he hb
def rLenK (K : PySem.W.Frag) : List V → Hp → VK → Prop := fun xs H Q => ∃ p ys, xs = [.ref p] ∧ (SqL K H p ys ∨ SqT K H p ys) ∧ Q (.int ys.length) H
theorem klen (h : X.K = K := by rfl) : CallR X (.builtin "len") (rLenK K) := by subst h; exact call_len_seq
end
theorem hu1 {k : Nat} {A : Around} (hr : Room k A) : A.units + 1 < cLine := by have := hr.units; omega
section
variable {X : Cx}
theorem kdin {d : Addr} (h : ∃ es n, KDict X.K X.w d es n) : OpR X (compareOp .In) (fun x y H Q => ∃ (z : Str) (r : Option Value), x = .str z ∧ y = .ref d ∧ PySem.W.nsIn X.K d z = some r ∧ Q (.bl r.isSome) H) := by
  obtain ⟨es, n, D⟩ := h
  exact op_in_kd D
theorem kdnin {d : Addr} (h : ∃ es n, KDict X.K X.w d es n) : OpR X (compareOp .NotIn) (fun x y H Q => ∃ (z : Str) (r : Option Value), x = .str z ∧ y = .ref d ∧ PySem.W.nsIn X.K d z = some r ∧ Q (.bl (!r.isSome)) H) := by
  obtain ⟨es, n, D⟩ := h
  exact op_notIn_kd D
end
theorem kgtup {X : Cx} {K : PySem.W.Frag} {es : List Expr} {k : Nat} {t : TGs} {n : Nat} {pos : Pos} (hc : X.calm = true) (h : PGs X es t)
    (hn : (assignEach es X.env).length = n := by rfl) (hst : (assignEach es X.env).findIdx? (·.1) = none := by rfl) (hK : X.K = K := by rfl) : PG X (.Tuple es k pos) (gTup K n t) := by subst hK; exact pg_tup hc h hn hst
theorem hu65 {A : Around} {k : Nat} (hr : Room k A) : A.units + 65 < cLine := by have := hr.un; omega
theorem keqD {X : Cx} {K : PySem.W.Frag} (hu : X.A.units + 64 < cLine) (h : X.K = K := by rfl) : OpR X (compareOp .Eq) (rEqD K) := by subst h; exact op_eqD hu
theorem kneD {X : Cx} {K : PySem.W.Frag} (hu : X.A.units + 64 < cLine) (h : X.K = K := by rfl) : OpR X (compareOp .NotEq) (rNeD K) := by subst h; exact op_neD hu

/-! ### defs that raise own exceptions -/
theorem kit_own {K : PySem.W.Frag} {B C : Addr} (h1 : PySem.W.subIn K (.ref C) (.type "BaseException") = some true) (h2 : PySem.W.typeIn K (.ref C) = some (.type "type")) (h3 : PySem.W.subIn K (.ref B) (.ref C) = some true) : PySem.W.kitOne K (.ref B) (.ref C) = some true := by
  have h0 : (PySem.W.clsIn K C).isSome = true := by
    have h1 : PySem.W.mroIn K C (.type "BaseException") = some true := h1
    unfold PySem.W.mroIn at h1
    cases e : PySem.W.clsIn K C with
    | some _ => rfl
    | none => rw [e] at h1; cases h1
  unfold PySem.W.kitOne
  split
  · rfl
  · show (if ((PySem.W.clsIn K C).isSome && PySem.W.typeIn K (.ref C) == some (.type "type")) = true then PySem.W.subIn K (.ref B) (.ref C) else none) = some true
    rw [h0, h2, h3]
    rfl
section
variable {X : Cx}
/-- C() of an own exception class without an __init__ of its own -/
theorem pmk_own0 {x : Str} {C : Addr} {bmB : List Value} {B newId initId : String} {p pos : Pos} (F : ExcBaseFacts B newId initId bmB) (q : PySem.W.excIn X.K C bmB newId = true) (gC : X.mg x = some (.ref C)) (kC : PySem.W.keepIn X.K (.ref C) = true) (r : Raises X (.ref C)) (hg : Gl X x)
    (hdb : (x == ("__debug__" : Str)) = false := by decide) : PMk X (.Call (.Name x p) [] [] pos) (fun _ H Q => Q (.ref C) none H) := by
  intro pins s σ H Q I h
  refine wpAny_Call_Name_kw (ld_glob I hg gC ?_ hdb)
  refine PySem.W.callWith_K0 I.kIn kC ?_
  show wpAny _ _ (call (.ref C) []) _ _ _
  obtain ⟨bm, N, nm, qn, bs, hdct, sn, sub, ab, col, dd, k0, k1, k2, k3, k5, mN, hC, hN, hni, T⟩ := exc_obj I.kIn q
  refine wpAny_call_exc_subT F T hC hN hni (fun h' e hm => ?_) (Nat.zero_le _)
  exact mk_of I hm r h (I.hok.gone hm.new)
end
/-- an own exception class over ValueError -/
structure ExOk (K : PySem.W.Frag) (mg : Str → Option Value) (x : Str) (C : Addr) : Prop where
  ex : PySem.W.excIn K C [.type "ValueError", .type "Exception", .type "BaseException", .type "object"] "ValueError.__new__" = true
  g : mg x = some (.ref C)
  kp : PySem.W.keepIn K (.ref C) = true
  bp : PySem.W.subIn K (.ref C) (.type "BaseException") = some true
  tp : PySem.W.typeIn K (.ref C) = some (.type "type")
  hd : PySem.W.hasDictIn K C = true
theorem ExOk.exm {K : PySem.W.Frag} {mg : Str → Option Value} {x : Str} {C : Addr} {cls : Value} {b : Bool} (e : ExOk K mg x C) (h : PySem.W.subIn K cls (.ref C) = some b) : PySem.W.exmOne K cls (.ref C) = some b := PySem.W.exm_ref e.bp e.hd e.tp h
theorem pmk_ok {X : Cx} {x : Str} {C : Addr} {p pos : Pos} (e : ExOk X.K X.mg x C) (hg : Gl X x) (hdb : (x == ("__debug__" : Str)) = false := by decide) : PMk X (.Call (.Name x p) [] [] pos) (fun _ H Q => Q (.ref C) none H) :=
  pmk_own0 PySem.F.excBase_ValueError e.ex e.g e.kp (raises_own e.bp e.tp) hg hdb
/-! the promises of such defs -/
structure CalX (P : Program) (w : World) (K : PySem.W.Frag) (mg : Str → Option Value) (base : Heap) (k : Nat) (x : Str) (sp : Sp) : Prop where
  ex : ∃ (f : Addr) (fd : FuncData) (ps : List Str), FnOk P w K mg base (L2.CX P w) k f fd ps sp ∧ mg x = some (.ref f) ∧ PySem.W.keepIn K (.ref f) = true ∧ Binds K fd ps []
structure MetX (P : Program) (w : World) (K : PySem.W.Frag) (mg : Str → Option Value) (base : Heap) (k : Nat) (C : Addr) (m : Str) (sp : Sp) : Prop where
  ex : ∃ (f : Addr) (fd : FuncData) (ps : List Str), Cls K C ∧ Meth K C m f ∧ FnOk P w K mg base (L2.CX P w) k f fd ps sp ∧ Binds K fd ps []
structure MakX (P : Program) (w : World) (K : PySem.W.Frag) (mg : Str → Option Value) (base : Heap) (k : Nat) (x : Str) (C : Addr) (sp : Sp) : Prop where
  ex : ∃ (f : Addr) (fd : FuncData) (ps : List Str), Mk K C f ∧ FnOk P w K mg base (L2.CX P w) k f fd ps sp ∧ mg x = some (.ref C) ∧ Binds K fd ps []
section
variable {P : Program} {w : World} {K : PySem.W.Frag} {mg : Str → Option Value} {base : Heap}
theorem calX {x : Str} {st : Stmt} {N ps : List Str} {k : Nat} {sp : Sp} (D : DefOk K mg x st ps) (S : FnScope N ps (defScope st)) (len : ∀ vs H Q E, sp vs H Q E → vs.length = ps.length)
    (hbody : ∀ (f : Addr) (cdv : Value) (A : Around) (outer : List Env) (s : Shared) (H : Hp) (vs : List V) (Q : VK) (E : XK), Room k (A.deeper (envOfC x (defScope st) s.heap.objs.size f cdv)) → sp vs H Q E →
      ∃ t, PSs (cxOf (L2.CX P w) P w K mg base N x (defScope st) f cdv A outer s H E) (defBody st) t ∧ t { nx := fun _ H' => Q .non H', rt := Q } (start N vs) H) : CalX P w K mg base (k + 1) x sp := by
  obtain ⟨f, fd, F, hm, b⟩ := D.ex
  exact ⟨f, fd, ps, F.okX S len (fun cdv A outer s H vs Q E hr h => hbody f cdv A outer s H vs Q E hr h), hm, F.kp, b⟩
theorem metX {C : Addr} {m qual : Str} {st : Stmt} {N ps : List Str} {k : Nat} {sp : Sp} (c : Cls K C) (D : MethOk K C m qual st ps) (S : FnScope N ps (defScope st)) (len : ∀ vs H Q E, sp vs H Q E → vs.length = ps.length)
    (hbody : ∀ (f : Addr) (cdv : Value) (A : Around) (outer : List Env) (s : Shared) (H : Hp) (vs : List V) (Q : VK) (E : XK), Room k (A.deeper (envOfC qual (defScope st) s.heap.objs.size f cdv)) → sp vs H Q E →
      ∃ t, PSs (cxOf (L2.CX P w) P w K mg base N qual (defScope st) f cdv A outer s H E) (defBody st) t ∧ t { nx := fun _ H' => Q .non H', rt := Q } (start N vs) H) : MetX P w K mg base (k + 1) C m sp := by
  obtain ⟨f, fd, M, F, b⟩ := D.ex
  exact ⟨f, fd, ps, c, M, F.okX S len (fun cdv A outer s H vs Q E hr h => hbody f cdv A outer s H vs Q E hr h), b⟩
theorem makX {C : Addr} {x qual : Str} {st : Stmt} {N ps : List Str} {k : Nat} {sp : Sp} (hm : mg x = some (.ref C)) (D : MakOk K C qual st ps) (S : FnScope N ps (defScope st)) (len : ∀ vs H Q E, sp vs H Q E → vs.length = ps.length)
    (hbody : ∀ (f : Addr) (cdv : Value) (A : Around) (outer : List Env) (s : Shared) (H : Hp) (vs : List V) (Q : VK) (E : XK), Room k (A.deeper (envOfC qual (defScope st) s.heap.objs.size f cdv)) → sp vs H Q E →
      ∃ t, PSs (cxOf (L2.CX P w) P w K mg base N qual (defScope st) f cdv A outer s H E) (defBody st) t ∧ t { nx := fun _ H' => Q .non H', rt := Q } (start N vs) H) : MakX P w K mg base (k + 1) x C sp := by
  obtain ⟨f, fd, M, F, b⟩ := D.ex
  exact ⟨f, fd, ps, M, F.okX S len (fun cdv A outer s H vs Q E hr h => hbody f cdv A outer s H vs Q E hr h), hm, b⟩
end
/-! their calls: E tells at the slots what is wished of an error -/
section
variable {X : Cx} {k j : Nat} {C : Addr} {x m : Str} {sp : Sp} {p pos apos : Pos} {e o : Expr} {es : List Expr} {ta : TE} {t : TA} {E : L2.St → XK}
theorem pe_cX (c : CalX X.prog X.w X.K X.mg X.base k x sp) (hr : Room j X.A) (hk : k ≤ j) (hg : Gl X x) (hx : ∀ σ, PassesAt (L2.CX X.prog X.w) X σ (E σ)) (ha : PA X (e :: es) t)
    (hdb : (x == ("__debug__" : Str)) = false := by decide) (he : starEach (e :: es) X.env = (false, eval e X.env) :: starEach es X.env := by rfl) (hpl : (backTo pos (starEach es X.env)).any (·.1) = false := by rfl) :
    PE X (.Call (.Name x p) (e :: es) [] pos) (tCallS sp E t) := by
  obtain ⟨f, fd, ps, F, hm, kp, b⟩ := c.ex
  exact pe_callS F (hr.mono hk) hg hm kp b hx ha hdb he hpl
/-- where nothing is raised -/
theorem pe_cXn (c : CalX X.prog X.w X.K X.mg X.base k x sp) (hr : Room j X.A) (hk : k ≤ j) (hg : Gl X x) (ha : PA X (e :: es) t)
    (hdb : (x == ("__debug__" : Str)) = false := by decide) (he : starEach (e :: es) X.env = (false, eval e X.env) :: starEach es X.env := by rfl) (hpl : (backTo pos (starEach es X.env)).any (·.1) = false := by rfl) :
    PE X (.Call (.Name x p) (e :: es) [] pos) (tCall sp [] L2.E0 t) := by
  obtain ⟨f, fd, ps, F, hm, kp, b⟩ := c.ex
  exact pe_call F (hr.mono hk) hg hm kp b .nil passL ha hdb he hpl
def tMethX (C : Addr) (m : Str) (sp : Sp) (E : L2.St → XK) (ta : TE) (t : TA) : TE := fun σ H Q => ta σ H fun x H1 => ∃ a dx fs, x = .ref a ∧ H1 a = some (.ins C dx fs) ∧ fs.lookup m = none ∧ t σ H1 fun vs H2 => sp (.ref a :: vs) H2 Q (E σ)
theorem pe_mtX {pl : Sem Bool} (c : MetX X.prog X.w X.K X.mg X.base k C m sp) (hr : Room j X.A) (hk : k ≤ j) (hx : ∀ σ, PassesAt (L2.CX X.prog X.w) X σ (E σ)) (he : PE X o ta) (ha : PA X (e :: es) t)
    (hst : starEach (e :: es) X.env = (false, eval e X.env) :: starEach es X.env := by rfl) (hpl : (backTo pos (starEach es X.env)).any (·.1) = false := by rfl)
    (ht : eval (.Call (.Attribute o m apos) (e :: es) [] pos) X.env = (do
      let ov ← eval o X.env
      standAt apos.atName
      let (f, first) ← holding [ov] (getMethod ov m pl)
      callWith pos f first (backTo pos (starEach (e :: es) X.env)) (backToKw pos (keywordEach [] X.env))) := by rfl) :
    PE X (.Call (.Attribute o m apos) (e :: es) [] pos) (tMethX C m sp E ta t) := by
  obtain ⟨f, fd, ps, hc, hm, F, b⟩ := c.ex
  refine ⟨fun pins s σ H Q I h => ?_⟩
  refine PySem.W.methodCall_KW (pl := pl) (thn (he.run pins s σ H _ I h) fun u s1 ⟨x, H1, I1, rx, a, dx, fs, ex, ea, l, q⟩ => ?_) ht
  subst ex
  obtain rfl : u = Value.ref a := rx
  refine getmeth_ok I1 ea hc hm l ?_
  refine PySem.W.callWith_K (first := [.ref a]) (h₀ := X.base) I.ok.mod.kin hm.kp (thn (ha.run pos pins s1 σ H1 _ I1 q) fun us s2 ⟨vs, H2, I2, r, q2⟩ => ⟨I2.kIn, ?_⟩) hst hpl
  exact run_fnS (us := .ref a :: us) (vs := .ref a :: vs) F (hr.mono hk) b (hx σ) I2 (.cons rfl r) q2
theorem pe_mtX0 {pl : Sem Bool} (c : MetX X.prog X.w X.K X.mg X.base k C m sp) (hr : Room j X.A) (hk : k ≤ j) (hx : ∀ σ, PassesAt (L2.CX X.prog X.w) X σ (E σ)) (he : PE X o ta)
    (ht : eval (.Call (.Attribute o m apos) [] [] pos) X.env = (do
      let ov ← eval o X.env
      standAt apos.atName
      let (f, first) ← holding [ov] (getMethod ov m pl)
      callWith pos f first (backTo pos (starEach [] X.env)) (backToKw pos (keywordEach [] X.env))) := by rfl) :
    PE X (.Call (.Attribute o m apos) [] [] pos) (tMethX C m sp E ta tNil) := by
  obtain ⟨f, fd, ps, hc, hm, F, b⟩ := c.ex
  refine ⟨fun pins s σ H Q I h => ?_⟩
  refine PySem.W.methodCall_KW (pl := pl) (thn (he.run pins s σ H _ I h) fun u s1 ⟨x, H1, I1, rx, a, dx, fs, ex, ea, l, q⟩ => ?_) ht
  subst ex
  obtain rfl : u = Value.ref a := rx
  refine getmeth_ok I1 ea hc hm l ?_
  exact PySem.W.callWith_K0 (first := [.ref a]) I1.kIn hm.kp (run_fnS (us := [.ref a]) (vs := [.ref a]) F (hr.mono hk) b (hx σ) I1 (.cons rfl .nil) q)
def tMakeX (C : Addr) (sp : Sp) (E : L2.St → XK) (t : TA) : TE := fun σ H Q => t σ H fun vs H1 => ∀ x dx, H1 x = none → H1 dx = none → dx ≠ x → sp (.ref x :: vs) (upd (upd H1 dx (.own x)) x (.ins C dx [])) (fun v H2 => v = .non ∧ Q (.ref x) H2) (E σ)
theorem run_makeX {CX : CXT} {f : Addr} {fd : FuncData} {ps : List Str} {pins : List (Addr × Obj)} {σ : L2.St} {H : Hp} {s : Shared} {Q : VK} {us : List Value} {vs : List V} {Eσ : XK} (M : Mk X.K C f) (F : FnOk X.prog X.w X.K X.mg X.base CX k f fd ps sp) (hr : Room (k + 1) X.A) (hb : Binds X.K fd ps [])
    (hx : PassesAt CX X σ Eσ) (I : Inv X pins σ H s) (r : Vals vs us)
    (h : ∀ x dx, H x = none → H dx = none → dx ≠ x → sp (.ref x :: vs) (upd (upd H dx (.own x)) x (.ins C dx [])) (fun v H2 => v = .non ∧ Q (.ref x) H2) Eσ) :
    wpAny (model X.prog X.w) X.A (call (.ref C) us) (EP X pins σ Q) X.xe s := by
  have hq := h (s.heap.objs.size + 1) s.heap.objs.size (I.hok.fresh (Nat.le_succ _)) (I.hok.fresh (Nat.le_refl _)) (Nat.ne_of_lt (Nat.lt_succ_self _))
  have I2 := Inv.made (C := C) I
  have r2 : Vals (V.ref (s.heap.objs.size + 1) :: vs) (Value.ref (s.heap.objs.size + 1) :: us) := .cons rfl r
  have hl : (Value.ref (s.heap.objs.size + 1) :: us ++ ([] : List Value)).length = ps.length := by
    have e := r2.length
    rw [F.len _ _ _ _ hq] at e
    rw [List.append_nil]
    exact e.symm
  have hb' := hb _ (Value.ref (s.heap.objs.size + 1) :: us) I2.kIn hl
  rw [List.append_nil] at hb'
  refine wpAny_call (make_map (f := f) I.kIn M.makes M.init (beq_iff_eq.mp M.fn) (codeAny_mono (F.run _ X.stack _ _ ⟨Value.ref (s.heap.objs.size + 1) :: us, []⟩ (Value.ref (s.heap.objs.size + 1) :: us) _ _ Eσ (hr.make C us [])
    (I2.env0.make C us []) hb' r2 hq) fun r s' hq' => ?_))
  cases r with
  | error e => exact hx pins _ _ e s' I2 hq'
  | ok fl =>
    cases fl with
    | ret u =>
      obtain ⟨v, H', I3, rv, ev, q3⟩ := I2.after hq'
      subst ev
      exact ⟨rv, ⟨V.ref (s.heap.objs.size + 1), H', I3, rfl, q3⟩⟩
    | next => exact False.elim hq'
    | brk => exact False.elim hq'
    | cont => exact False.elim hq'
theorem pe_mkX (c : MakX X.prog X.w X.K X.mg X.base k x C sp) (hr : Room j X.A) (hk : k + 1 ≤ j) (hg : Gl X x) (hx : ∀ σ, PassesAt (L2.CX X.prog X.w) X σ (E σ)) (ha : PA X (e :: es) t)
    (hdb : (x == ("__debug__" : Str)) = false := by decide) (he : starEach (e :: es) X.env = (false, eval e X.env) :: starEach es X.env := by rfl) (hpl : (backTo pos (starEach es X.env)).any (·.1) = false := by rfl) :
    PE X (.Call (.Name x p) (e :: es) [] pos) (tMakeX C sp E t) := by
  obtain ⟨f, fd, ps, M, F, hm, b⟩ := c.ex
  refine ⟨fun pins s σ H Q I h => ?_⟩
  refine wpAny_Call_Name_kw (ld_glob I hg hm ?_ hdb)
  refine PySem.W.callWith_K (h₀ := X.base) I.ok.mod.kin M.kp (thn (ha.run pos pins s σ H _ I h) fun us s1 ⟨vs, H1, I1, r, q⟩ => ⟨I1.kIn, ?_⟩) he hpl
  exact run_makeX M F (hr.mono hk) b (hx σ) I1 r q
/-- where nothing is let out: for the calls above in a def without errors -/
theorem no_pass : ∀ σ : L2.St, PassesAt (L2.CX X.prog X.w) X σ ((fun _ => L2.E0) σ) := fun σ pins H s e s' I c => passL pins σ H s e s' I c
end

/-! ### own exceptions with an __init__ of their own -/
structure ExI (K : PySem.W.Frag) (mg : Str → Option Value) (x : Str) (C : Addr) : Prop where
  g : mg x = some (.ref C)
  ox : OexC K C
  xf : XfC K C
theorem ExI.exm {K : PySem.W.Frag} {mg : Str → Option Value} {x : Str} {C : Addr} {cls : Value} {b : Bool} (e : ExI K mg x C) (h : PySem.W.subIn K cls (.ref C) = some b) : PySem.W.exmOne K cls (.ref C) = some b := PySem.W.exm_ref e.ox.exC e.xf.hdC e.ox.tyC h
structure ExInit (K : PySem.W.Frag) (C : Addr) (qual : Str) (st : Stmt) (ps : List Str) : Prop where
  ex : ∃ (f : Addr) (fd : FuncData), PySem.W.findIn K (.ref C) "__init__" = some (some (.ref f)) ∧ PySem.W.typeIn K (.ref f) = some (.type "function") ∧ L2.Fun K "__init__" qual st f fd ∧ Binds K fd ps []
structure ExMk (P : Program) (w : World) (K : PySem.W.Frag) (mg : Str → Option Value) (base : Heap) (k : Nat) (x : Str) (C : Addr) (sp : Sp) : Prop where
  ex : ∃ (f : Addr) (fd : FuncData) (ps : List Str), OexC K C ∧ PySem.W.findIn K (.ref C) "__init__" = some (some (.ref f)) ∧ PySem.W.typeIn K (.ref f) = some (.type "function") ∧ FnOk P w K mg base L2.CX0 k f fd ps sp ∧ Binds K fd ps [] ∧ mg x = some (.ref C)
section
variable {P : Program} {w : World} {K : PySem.W.Frag} {mg : Str → Option Value} {base : Heap}
theorem exmk {C : Addr} {x qual : Str} {st : Stmt} {N ps : List Str} {k : Nat} {sp : Sp} (e : ExI K mg x C) (D : ExInit K C qual st ps) (S : FnScope N ps (defScope st)) (len : ∀ vs H Q E, sp vs H Q E → vs.length = ps.length)
    (hbody : ∀ (f : Addr) (cdv : Value) (A : Around) (outer : List Env) (s : Shared) (H : Hp) (vs : List V) (Q : VK) (E : XK), Room k (A.deeper (envOfC qual (defScope st) s.heap.objs.size f cdv)) → sp vs H Q E →
      ∃ t, PSs (cxOf L2.CX0 P w K mg base N qual (defScope st) f cdv A outer s H E).nox (defBody st) t ∧ t { nx := fun _ H' => Q .non H', rt := Q } (start N vs) H) : ExMk P w K mg base (k + 1) x C sp := by
  obtain ⟨f, fd, h1, h2, F, b⟩ := D.ex
  exact ⟨f, fd, ps, e.ox, h1, h2, F.ok S len (fun cdv A outer s H vs Q E hr h => hbody f cdv A outer s H vs Q E hr h), b, e.g⟩
end
theorem pmk_ei {X : Cx} {k j : Nat} {x : Str} {C : Addr} {sp : Sp} {ta : TA} {p pos : Pos} {e : Expr} {es : List Expr} (c : ExMk X.prog X.w X.K X.mg X.base k x C sp) (hr : Room j X.A) (hk : k + 1 ≤ j) (hg : Gl X x) (ha : PA X (e :: es) ta)
    (hdb : (x == ("__debug__" : Str)) = false := by decide) (he : starEach (e :: es) X.env = (false, eval e X.env) :: starEach es X.env := by rfl) (hpl : (backTo pos (starEach es X.env)).any (·.1) = false := by rfl) :
    PMk X (.Call (.Name x p) (e :: es) [] pos) (tMkO C sp [] ta) := by
  obtain ⟨f, fd, ps, T, iC, tI, F1, hb, hm⟩ := c.ex
  exact pmk_oex T iC tI F1 (hr.mono hk) hb .nil pass0 hg hm ha hdb he hpl
/-- what an __init__ of two fields leaves -/
def spInit2 (C : Addr) (f g : Str) : Sp := fun vs H Q _ => ∃ (a : Addr) (r s : V), vs = [.ref a, r, s] ∧ H a = some (exo a C none) ∧
  ∀ d, H d = none → d ≠ a → Q .non (upd (upd (upd H d (exd d [(f, r)])) a (exo a C (some d))) d (exd d [(g, s), (f, r)]))
/-- its use where it is raised -/
theorem mk_two {C : Addr} {f g : Str} {H1 : Hp} {Q : XK} {r s : V} (q : ∀ H' d, Same H1 H' → H1 d = none → H' d = some (.xd [(g, s), (f, r)]) → Q (.ref C) (some d) H') :
    ([r, s] : List V).length ≤ 1000 ∧ ∀ a, H1 a = none → spInit2 C f g (.ref a :: ([r, s] ++ [])) (upd H1 a (exo a C none)) (fun v H2 => v = .non ∧ ∃ (d : Addr) (fs : List (Str × V)), H2 a = some (exo a C (some d)) ∧ H2 d = some (exd d fs) ∧ H1 d = none ∧ Q (.ref C) (some d) (upd (del H2 a) d (.xd fs))) (fun _ _ _ => False) := by
  refine ⟨by show 2 ≤ 1000; decide, fun a ha => ⟨a, r, s, rfl, upd_same, fun d hd hne => ⟨rfl, d, [(g, s), (f, r)], ?_, upd_same, ?_, q _ d ?_ ?_ upd_same⟩⟩⟩
  · rw [upd_ne hne.symm, upd_same]
  · rw [upd_ne hne] at hd; exact hd
  · intro b o e
    have hb : b ≠ d := fun z => by rw [z] at e; rw [upd_ne hne] at hd; rw [hd] at e; cases e
    have hba : b ≠ a := fun z => by rw [z, ha] at e; cases e
    rw [upd_ne hb, del_ne hba, upd_ne hb, upd_ne hba, upd_ne hb, upd_ne hba]
    exact e
  · rw [upd_ne hne] at hd; exact hd

def topS (i : Nat) : Stmt := PySem.Challenge.pw_oathledger_k45_whole_supply_is_conserved.main.body.getD i (.Pass ⟨0, 0, 0, 0⟩)
abbrev s_Refused____init__ : Stmt := inClass (topS 2) 0
theorem sc_Refused____init__ : FnScope ["self", "reason"] ["self", "reason"] (defScope s_Refused____init__) := ⟨rfl, rfl, rfl, by decide +kernel, rfl, by decide +kernel, by decide +kernel⟩
abbrev s_Accounts____init__ : Stmt := inClass (topS 8) 0
theorem sc_Accounts____init__ : FnScope ["self"] ["self"] (defScope s_Accounts____init__) := ⟨rfl, rfl, rfl, by decide +kernel, rfl, by decide +kernel, by decide +kernel⟩
abbrev s_Accounts__create : Stmt := inClass (topS 8) 1
theorem sc_Accounts__create : FnScope ["self", "client", "name"] ["self", "client", "name"] (defScope s_Accounts__create) := ⟨rfl, rfl, rfl, by decide +kernel, rfl, by decide +kernel, by decide +kernel⟩
abbrev s_Accounts__close : Stmt := inClass (topS 8) 2
theorem sc_Accounts__close : FnScope ["self", "client", "name"] ["self", "client", "name"] (defScope s_Accounts__close) := ⟨rfl, rfl, rfl, by decide +kernel, rfl, by decide +kernel, by decide +kernel⟩
abbrev s_Accounts__issue : Stmt := inClass (topS 8) 3
theorem sc_Accounts__issue : FnScope ["self", "client", "name", "amount"] ["self", "client", "name", "amount"] (defScope s_Accounts__issue) := ⟨rfl, rfl, rfl, by decide +kernel, rfl, by decide +kernel, by decide +kernel⟩
abbrev s_Accounts__burn : Stmt := inClass (topS 8) 4
theorem sc_Accounts__burn : FnScope ["self", "client", "name", "amount"] ["self", "client", "name", "amount"] (defScope s_Accounts__burn) := ⟨rfl, rfl, rfl, by decide +kernel, rfl, by decide +kernel, by decide +kernel⟩
abbrev s_Accounts__pay : Stmt := inClass (topS 8) 5
theorem sc_Accounts__pay : FnScope ["self", "client", "source", "target", "amount"] ["self", "client", "source", "target", "amount"] (defScope s_Accounts__pay) := ⟨rfl, rfl, rfl, by decide +kernel, rfl, by decide +kernel, by decide +kernel⟩
abbrev s_Accounts__hold : Stmt := inClass (topS 8) 6
theorem sc_Accounts__hold : FnScope ["self", "client", "source", "target", "amount", "key"] ["self", "client", "source", "target", "amount", "key"] (defScope s_Accounts__hold) := ⟨rfl, rfl, rfl, by decide +kernel, rfl, by decide +kernel, by decide +kernel⟩
abbrev s_Accounts__settle : Stmt := inClass (topS 8) 7
theorem sc_Accounts__settle : FnScope ["self", "client", "key", "source", "target", "amount"] ["self", "client", "key"] (defScope s_Accounts__settle) := ⟨rfl, rfl, rfl, by decide +kernel, rfl, by decide +kernel, by decide +kernel⟩
abbrev s_Accounts__release : Stmt := inClass (topS 8) 8
theorem sc_Accounts__release : FnScope ["self", "client", "key", "source", "target", "amount"] ["self", "client", "key"] (defScope s_Accounts__release) := ⟨rfl, rfl, rfl, by decide +kernel, rfl, by decide +kernel, by decide +kernel⟩
abbrev s_Accounts__balance : Stmt := inClass (topS 8) 9
theorem sc_Accounts__balance : FnScope ["self", "name"] ["self", "name"] (defScope s_Accounts__balance) := ⟨rfl, rfl, rfl, by decide +kernel, rfl, by decide +kernel, by decide +kernel⟩
abbrev s_Accounts__owner : Stmt := inClass (topS 8) 10
theorem sc_Accounts__owner : FnScope ["self", "name"] ["self", "name"] (defScope s_Accounts__owner) := ⟨rfl, rfl, rfl, by decide +kernel, rfl, by decide +kernel, by decide +kernel⟩
abbrev s_Accounts__supply : Stmt := inClass (topS 8) 11
theorem sc_Accounts__supply : FnScope ["self"] ["self"] (defScope s_Accounts__supply) := ⟨rfl, rfl, rfl, by decide +kernel, rfl, by decide +kernel, by decide +kernel⟩
abbrev s_Accounts__rows : Stmt := inClass (topS 8) 12
theorem sc_Accounts__rows : FnScope ["self", "name"] ["self"] (defScope s_Accounts__rows) := ⟨rfl, rfl, rfl, by decide +kernel, rfl, by decide +kernel, by decide +kernel⟩
abbrev s_Accounts__held : Stmt := inClass (topS 8) 13
theorem sc_Accounts__held : FnScope ["self", "key"] ["self"] (defScope s_Accounts__held) := ⟨rfl, rfl, rfl, by decide +kernel, rfl, by decide +kernel, by decide +kernel⟩
abbrev s_Accounts__clone : Stmt := inClass (topS 8) 14
theorem sc_Accounts__clone : FnScope ["self", "accounts"] ["self"] (defScope s_Accounts__clone) := ⟨rfl, rfl, rfl, by decide +kernel, rfl, by decide +kernel, by decide +kernel⟩
abbrev s_Accounts___check : Stmt := inClass (topS 8) 15
theorem sc_Accounts___check : FnScope ["self", "name"] ["self", "name"] (defScope s_Accounts___check) := ⟨rfl, rfl, rfl, by decide +kernel, rfl, by decide +kernel, by decide +kernel⟩
abbrev s_Accounts___check_owner : Stmt := inClass (topS 8) 16
theorem sc_Accounts___check_owner : FnScope ["self", "client", "name"] ["self", "client", "name"] (defScope s_Accounts___check_owner) := ⟨rfl, rfl, rfl, by decide +kernel, rfl, by decide +kernel, by decide +kernel⟩
abbrev s_Accounts___check_funds : Stmt := inClass (topS 8) 17
theorem sc_Accounts___check_funds : FnScope ["self", "name", "amount"] ["self", "name", "amount"] (defScope s_Accounts___check_funds) := ⟨rfl, rfl, rfl, by decide +kernel, rfl, by decide +kernel, by decide +kernel⟩
abbrev s_Accounts___check_payment : Stmt := inClass (topS 8) 18
theorem sc_Accounts___check_payment : FnScope ["self", "client", "source", "target", "amount"] ["self", "client", "source", "target", "amount"] (defScope s_Accounts___check_payment) := ⟨rfl, rfl, rfl, by decide +kernel, rfl, by decide +kernel, by decide +kernel⟩
abbrev s_Accounts___hold_of : Stmt := inClass (topS 8) 19
theorem sc_Accounts___hold_of : FnScope ["self", "key"] ["self", "key"] (defScope s_Accounts___hold_of) := ⟨rfl, rfl, rfl, by decide +kernel, rfl, by decide +kernel, by decide +kernel⟩
abbrev s_Accounts___is_held : Stmt := inClass (topS 8) 20
theorem sc_Accounts___is_held : FnScope ["self", "name", "hold"] ["self", "name"] (defScope s_Accounts___is_held) := ⟨rfl, rfl, rfl, by decide +kernel, rfl, by decide +kernel, by decide +kernel⟩
abbrev s__law_word : Stmt := topS 10
theorem sc__law_word : FnScope ["size", "chars", "seed", "step", "word", "rest", "k"] ["size", "chars", "seed", "step"] (defScope s__law_word) := ⟨rfl, rfl, rfl, by decide +kernel, rfl, by decide +kernel, by decide +kernel⟩
abbrev s__law_name : Stmt := topS 11
theorem sc__law_name : FnScope ["cell", "size"] ["cell"] (defScope s__law_name) := ⟨rfl, rfl, rfl, by decide +kernel, rfl, by decide +kernel, by decide +kernel⟩
abbrev s__law_key : Stmt := topS 12
theorem sc__law_key : FnScope ["cell", "size"] ["cell"] (defScope s__law_key) := ⟨rfl, rfl, rfl, by decide +kernel, rfl, by decide +kernel, by decide +kernel⟩
abbrev s__law_amount : Stmt := topS 13
theorem sc__law_amount : FnScope ["cell"] ["cell"] (defScope s__law_amount) := ⟨rfl, rfl, rfl, by decide +kernel, rfl, by decide +kernel, by decide +kernel⟩
abbrev s__law_rich : Stmt := topS 14
theorem sc__law_rich : FnScope ["cell", "k", "mixed"] ["cell", "k"] (defScope s__law_rich) := ⟨rfl, rfl, rfl, by decide +kernel, rfl, by decide +kernel, by decide +kernel⟩
abbrev s__law_op : Stmt := topS 15
theorem sc__law_op : FnScope ["cell", "k", "rich", "first", "second", "third", "verb", "amount"] ["cell", "k"] (defScope s__law_op) := ⟨rfl, rfl, rfl, by decide +kernel, rfl, by decide +kernel, by decide +kernel⟩
abbrev s__law_call : Stmt := topS 16
theorem sc__law_call : FnScope ["accounts", "op", "verb", "client", "name", "other", "amount", "key", "e"] ["accounts", "op"] (defScope s__law_call) := ⟨rfl, rfl, rfl, by decide +kernel, rfl, by decide +kernel, by decide +kernel⟩
abbrev s__law_sum : Stmt := topS 17
theorem sc__law_sum : FnScope ["rows", "total", "row", "amount"] ["rows"] (defScope s__law_sum) := ⟨rfl, rfl, rfl, by decide +kernel, rfl, by decide +kernel, by decide +kernel⟩
abbrev s__law_sound : Stmt := topS 18
theorem sc__law_sound : FnScope ["accounts", "due", "rows", "held", "balances", "amounts", "supply"] ["accounts", "due"] (defScope s__law_sound) := ⟨rfl, rfl, rfl, by decide +kernel, rfl, by decide +kernel, by decide +kernel⟩
abbrev s_law : Stmt := topS 19
theorem sc_law : FnScope ["script", "accounts", "copied", "kept", "due", "k", "op", "before", "reason"] ["script"] (defScope s_law) := ⟨rfl, rfl, rfl, by decide +kernel, rfl, by decide +kernel, by decide +kernel⟩
structure Txt (K : PySem.W.Frag) (mg : Str → Option Value) (C_Accounts : Addr) (C_Refused : Addr) : Prop where
  d__law_word : DefOk K mg "_law_word" s__law_word ["size", "chars", "seed", "step"]
  d__law_name : DefOk K mg "_law_name" s__law_name ["cell"]
  d__law_key : DefOk K mg "_law_key" s__law_key ["cell"]
  d__law_amount : DefOk K mg "_law_amount" s__law_amount ["cell"]
  d__law_rich : DefOk K mg "_law_rich" s__law_rich ["cell", "k"]
  d__law_op : DefOk K mg "_law_op" s__law_op ["cell", "k"]
  d__law_call : DefOk K mg "_law_call" s__law_call ["accounts", "op"]
  d__law_sum : DefOk K mg "_law_sum" s__law_sum ["rows"]
  d__law_sound : DefOk K mg "_law_sound" s__law_sound ["accounts", "due"]
  d_law : DefOk K mg "law" s_law ["script"]
  cl_Accounts : Cls K C_Accounts
  g_Accounts : mg "Accounts" = some (.ref C_Accounts)
  na_Accounts__owners : NoAttr K C_Accounts "_owners"
  na_Accounts__balances : NoAttr K C_Accounts "_balances"
  na_Accounts__holds : NoAttr K C_Accounts "_holds"
  na_Accounts__supply : NoAttr K C_Accounts "_supply"
  mk_Accounts : MakOk K C_Accounts "Accounts.__init__" s_Accounts____init__ ["self"]
  me_Accounts__create : MethOk K C_Accounts "create" "Accounts.create" s_Accounts__create ["self", "client", "name"]
  me_Accounts__close : MethOk K C_Accounts "close" "Accounts.close" s_Accounts__close ["self", "client", "name"]
  me_Accounts__issue : MethOk K C_Accounts "issue" "Accounts.issue" s_Accounts__issue ["self", "client", "name", "amount"]
  me_Accounts__burn : MethOk K C_Accounts "burn" "Accounts.burn" s_Accounts__burn ["self", "client", "name", "amount"]
  me_Accounts__pay : MethOk K C_Accounts "pay" "Accounts.pay" s_Accounts__pay ["self", "client", "source", "target", "amount"]
  me_Accounts__hold : MethOk K C_Accounts "hold" "Accounts.hold" s_Accounts__hold ["self", "client", "source", "target", "amount", "key"]
  me_Accounts__settle : MethOk K C_Accounts "settle" "Accounts.settle" s_Accounts__settle ["self", "client", "key"]
  me_Accounts__release : MethOk K C_Accounts "release" "Accounts.release" s_Accounts__release ["self", "client", "key"]
  me_Accounts__balance : MethOk K C_Accounts "balance" "Accounts.balance" s_Accounts__balance ["self", "name"]
  me_Accounts__owner : MethOk K C_Accounts "owner" "Accounts.owner" s_Accounts__owner ["self", "name"]
  me_Accounts__supply : MethOk K C_Accounts "supply" "Accounts.supply" s_Accounts__supply ["self"]
  me_Accounts__rows : MethOk K C_Accounts "rows" "Accounts.rows" s_Accounts__rows ["self"]
  me_Accounts__held : MethOk K C_Accounts "held" "Accounts.held" s_Accounts__held ["self"]
  me_Accounts__clone : MethOk K C_Accounts "clone" "Accounts.clone" s_Accounts__clone ["self"]
  me_Accounts___check : MethOk K C_Accounts "_check" "Accounts._check" s_Accounts___check ["self", "name"]
  me_Accounts___check_owner : MethOk K C_Accounts "_check_owner" "Accounts._check_owner" s_Accounts___check_owner ["self", "client", "name"]
  me_Accounts___check_funds : MethOk K C_Accounts "_check_funds" "Accounts._check_funds" s_Accounts___check_funds ["self", "name", "amount"]
  me_Accounts___check_payment : MethOk K C_Accounts "_check_payment" "Accounts._check_payment" s_Accounts___check_payment ["self", "client", "source", "target", "amount"]
  me_Accounts___hold_of : MethOk K C_Accounts "_hold_of" "Accounts._hold_of" s_Accounts___hold_of ["self", "key"]
  me_Accounts___is_held : MethOk K C_Accounts "_is_held" "Accounts._is_held" s_Accounts___is_held ["self", "name"]
  x_Refused : ExI K mg "Refused" C_Refused
  xn_Refused_reason : PySem.W.findIn K (.ref C_Refused) "reason" = some none
  ei_Refused : ExInit K C_Refused "Refused.__init__" s_Refused____init__ ["self", "reason"]
  u_Refused_Refused : PySem.W.subIn K (.ref C_Refused) (.ref C_Refused) = some true
  c_ACCOUNT_LIMIT : ∃ u, mg "ACCOUNT_LIMIT" = some u ∧ RelV (.int 100) u
  c_HOLD_LIMIT : ∃ u, mg "HOLD_LIMIT" = some u ∧ RelV (.int 100) u
  c_MINT : ∃ u, mg "MINT" = some u ∧ RelV (.int (-1)) u
  c_SUPPLY_LIMIT : ∃ u, mg "SUPPLY_LIMIT" = some u ∧ RelV (.int 1000000000000000) u
  z_any : mg "any" = none
  z_bool : mg "bool" = none
  z_dict : mg "dict" = none
  z_int : mg "int" = none
  z_isinstance : mg "isinstance" = none
  z_len : mg "len" = none
  z_list : mg "list" = none
  z_range : mg "range" = none
  z_sorted : mg "sorted" = none
  z_str : mg "str" = none
set_option pp.maxSteps 150
theorem units65 {k : Nat} {A : Around} (r : Room k A) : A.units + 65 < cLine := by have := r.un; omega
theorem decV' (i j : Int) : decide (V.int i = V.int j) = decide (i = j) := decide_eq_decide.mpr ⟨fun z => V.int.inj z, fun z => by rw [z]⟩
theorem decS (i j : Str) : decide (V.str i = V.str j) = decide (i = j) := decide_eq_decide.mpr ⟨fun z => V.str.inj z, fun z => by rw [z]⟩
theorem ksla {X : Cx} {K : PySem.W.Frag} (h : X.K = K := by rfl) : SlR X (rSlA K) := by subst h; exact sl_tupA
theorem kcatA {X : Cx} {K : PySem.W.Frag} (h : X.K = K := by rfl) : OpR X (binaryOp .Add) (rCatA K) := by subst h; exact op_catA
/-! ### the draws of a script -/
def Dr (H : Hp) (D A : Addr) : Prop := D ≠ A ∧ ∃ (ds : List Int) (n : Nat), H D = some (.lst (ds.map V.int)) ∧ H A = some (.lst [.int n]) ∧ (∀ d ∈ ds, 0 ≤ d ∧ d < 1000) ∧ ds.length ≤ 2520
/-- all that was tracked but A is as it was -/
def Mod (A : Addr) (H H' : Hp) : Prop := ∀ b o, b ≠ A → H b = some o → H' b = some o
theorem Mod.refl {A : Addr} {H : Hp} : Mod A H H := fun _ _ _ h => h
theorem Mod.trans {A : Addr} {H H1 H2 : Hp} (a : Mod A H H1) (b : Mod A H1 H2) : Mod A H H2 := fun c o n h => b c o n (a c o n h)
theorem Same.mod {A : Addr} {H H' : Hp} (s : Same H H') : Mod A H H' := fun b o _ h => s b o h
theorem Mod.new {A p : Addr} {o : HO} {H H' : Hp} (s : Mod A H H') (h : H' p = none) : Mod A H (upd H' p o) := fun b u n e => by
  rw [upd_ne (ne_of_none (s b u n e) h)]
  exact s b u n e
theorem Dr.new {D A p : Addr} {o : HO} {H : Hp} (d : Dr H D A) (h : H p = none) : Dr (upd H p o) D A := by
  obtain ⟨ne, ds, n, h1, h2, h3⟩ := d
  exact ⟨ne, ds, n, by rw [upd_ne (ne_of_none h1 h)]; exact h1, by rw [upd_ne (ne_of_none h2 h)]; exact h2, h3⟩
theorem Dr.same {D A : Addr} {H H' : Hp} (d : Dr H D A) (s : Same H H') : Dr H' D A := by
  obtain ⟨ne, ds, n, h1, h2, h3⟩ := d
  exact ⟨ne, ds, n, s _ _ h1, s _ _ h2, h3⟩
/-- an object that is neither D nor A is changed -/
theorem Dr.put {D A p : Addr} {o : HO} {H : Hp} (d : Dr H D A) (h1 : p ≠ D) (h2 : p ≠ A) : Dr (upd H p o) D A := by
  obtain ⟨ne, ds, n, e1, e2, h3⟩ := d
  exact ⟨ne, ds, n, by rw [upd_ne h1.symm]; exact e1, by rw [upd_ne h2.symm]; exact e2, h3⟩
theorem Dr.freshA {D A p : Addr} {H : Hp} (d : Dr H D A) (h : H p = none) : p ≠ A := by
  obtain ⟨_, _, _, _, e, _⟩ := d
  exact (ne_of_none e h).symm
theorem Dr.freshD {D A p : Addr} {H : Hp} (d : Dr H D A) (h : H p = none) : p ≠ D := by
  obtain ⟨_, _, _, e, _⟩ := d
  exact (ne_of_none e h).symm
theorem Mod.free {A p : Addr} {H H' : Hp} (s : Mod A H H') (d : ∃ o, H' A = some o) (h : H' p = none) : H p = none := by
  cases e : H p with
  | none => rfl
  | some o =>
    by_cases hp : p = A
    · subst hp
      obtain ⟨o', e'⟩ := d
      rw [e'] at h; cases h
    · rw [s p o hp e] at h; cases h
theorem Dr.A_in {D A : Addr} {H : Hp} (d : Dr H D A) : ∃ o, H A = some o := by
  obtain ⟨_, _, _, _, e, _⟩ := d
  exact ⟨_, e⟩
theorem rng_app {ds : List Int} {x : Int} (h : ∀ d ∈ ds, 0 ≤ d ∧ d < 1000) (h0 : 0 ≤ x) (h1 : x < 1000) : ∀ d ∈ ds ++ [x], 0 ≤ d ∧ d < 1000 := fun d hd => by
  rcases List.mem_append.mp hd with hd | hd
  · exact h d hd
  · rw [List.mem_singleton.mp hd]; exact ⟨h0, h1⟩

/-! ### drawn numbers and strings -/
def prC (c : Nat) : Bool := decide (32 ≤ c) && decide (c ≤ 126) && decide (c ≠ 37)
def isPr (z : Str) : Bool := z.cps.toList.all prC
theorem app_tl (a b : Str) : (a ++ b).cps.toList = a.cps.toList ++ b.cps.toList := by
  show (a.cps ++ b.cps).toList = _
  rw [Array.toList_append]
theorem len_tl (z : Str) : z.cps.toList.length = z.length := Array.length_toList
theorem isPr_app (a b : Str) : isPr (a ++ b) = (isPr a && isPr b) := by
  unfold isPr
  rw [app_tl, List.all_append]

/-! ### values as data: what stands at them does not change -/
def TupAt (K : PySem.W.Frag) (H : Hp) (a : Addr) (xs : List V) : Prop := H a = some (.tup xs) ∨ KTup K a xs
section
variable {K : PySem.W.Frag}
theorem TupAt.sq {H : Hp} {a : Addr} {xs : List V} (h : TupAt K H a xs) : SqT K H a xs := h.elim SqT.of .inr
theorem TupAt.ty {H : Hp} {a : Addr} {xs : List V} (h : TupAt K H a xs) : TyX K H (.ref a) (.type "tuple") := h.elim (fun h => .base (.tup h)) (fun ⟨_, _, _, h1, h2, _⟩ => .kTuple h1 h2)
theorem TupAt.same {H H' : Hp} {a : Addr} {xs : List V} (h : TupAt K H a xs) (s : Same H H') : TupAt K H' a xs := h.imp (s _ _) id
/-- none of those at A (none: no matter) -/
def NeA (A : Option Addr) (a : Addr) : Prop := match A with | some b => a ≠ b | none => True
mutual
/-- v is the data d; the lists in it are none of those at A -/
inductive Dt (K : PySem.W.Frag) (H : Hp) (A : Option Addr) : V → PyData → Prop
  | non : Dt K H A .non .none
  | bl (b : Bool) : Dt K H A (.bl b) (.bool b)
  | int (i : Int) : Dt K H A (.int i) (.int i)
  | str (z : Str) (h : z.length ≤ 1000000) : Dt K H A (.str z) (.str z)
  | lst {a : Addr} {xs : List V} {ds : List PyData} : NeA A a → H a = some (.lst xs) → DtAll K H A xs ds → Dt K H A (.ref a) (.list ds)
  | tup {a : Addr} {xs : List V} {ds : List PyData} : TupAt K H a xs → DtAll K H A xs ds → Dt K H A (.ref a) (.tuple ds)
inductive DtAll (K : PySem.W.Frag) (H : Hp) (A : Option Addr) : List V → List PyData → Prop
  | nil : DtAll K H A [] []
  | cons {v : V} {vs : List V} {d : PyData} {ds : List PyData} : Dt K H A v d → DtAll K H A vs ds → DtAll K H A (v :: vs) (d :: ds)
end
theorem DtAll.length {H : Hp} {A : Option Addr} : ∀ {xs : List V} {ds : List PyData}, DtAll K H A xs ds → xs.length = ds.length
  | _, _, .nil => rfl
  | _, _, .cons _ r => by rw [List.length_cons, List.length_cons, r.length]
theorem DtAll.get {H : Hp} {A : Option Addr} : ∀ {xs : List V} {ds : List PyData} {i : Nat} {x : V}, DtAll K H A xs ds → xs[i]? = some x → ∃ d, ds[i]? = some d ∧ Dt K H A x d
  | _, _, _, _, .nil, e => by simp at e
  | _, _, 0, x, .cons h _, e => by simp at e; subst e; exact ⟨_, rfl, h⟩
  | _, _, i + 1, x, .cons _ r, e => by
    obtain ⟨d, h1, h2⟩ := r.get (i := i) (x := x) (by simpa using e)
    exact ⟨d, by simpa using h1, h2⟩
theorem DtAll.getD {H : Hp} {A : Option Addr} {xs : List V} {ds : List PyData} {i : Nat} {d : PyData} (h : DtAll K H A xs ds) (e : ds[i]? = some d) : ∃ x, xs[i]? = some x ∧ Dt K H A x d := by
  have hi : i < ds.length := (List.getElem?_eq_some_iff.mp e).1
  have hi' : i < xs.length := by rw [h.length]; exact hi
  obtain ⟨d', h1, h2⟩ := h.get (List.getElem?_eq_getElem hi')
  rw [e] at h1
  cases h1
  exact ⟨_, List.getElem?_eq_getElem hi', h2⟩
mutual
theorem Dt.mod {H H' : Hp} {A D : Addr} (s : Mod A H H') (dr : Dr H D A) : ∀ (d : PyData) (v : V), Dt K H (some A) v d → Dt K H' (some A) v d
  | .none, _, h => by cases h; exact .non
  | .bool b, _, h => by cases h; exact .bl b
  | .int i, _, h => by cases h; exact .int i
  | .str z, _, h => by cases h with | str _ hz => exact .str z hz
  | .list ds, _, h => by cases h with | lst hn ha hd => exact .lst hn (s _ _ hn ha) (DtAll.mod s dr ds _ hd)
  | .tuple ds, _, h => by
    cases h with
    | tup ha hd =>
      obtain ⟨_, _, _, _, e, _⟩ := id dr
      exact .tup (ha.imp (fun ha => s _ _ (ne_of ha e (by intro z; cases z)) ha) id) (DtAll.mod s dr ds _ hd)
  | .dict _, _, h => by cases h
theorem DtAll.mod {H H' : Hp} {A D : Addr} (s : Mod A H H') (dr : Dr H D A) : ∀ (ds : List PyData) (xs : List V), DtAll K H (some A) xs ds → DtAll K H' (some A) xs ds
  | [], _, h => by cases h; exact .nil
  | d :: ds, _, h => by cases h with | cons h1 h2 => exact .cons (Dt.mod s dr d _ h1) (DtAll.mod s dr ds _ h2)
end
mutual
theorem Dt.same {H H' : Hp} {A : Option Addr} (s : Same H H') : ∀ (d : PyData) (v : V), Dt K H A v d → Dt K H' A v d
  | .none, _, h => by cases h; exact .non
  | .bool b, _, h => by cases h; exact .bl b
  | .int i, _, h => by cases h; exact .int i
  | .str z, _, h => by cases h with | str _ hz => exact .str z hz
  | .list ds, _, h => by cases h with | lst hn ha hd => exact .lst hn (s _ _ ha) (DtAll.same s ds _ hd)
  | .tuple ds, _, h => by cases h with | tup ha hd => exact .tup (ha.same s) (DtAll.same s ds _ hd)
  | .dict _, _, h => by cases h
theorem DtAll.same {H H' : Hp} {A : Option Addr} (s : Same H H') : ∀ (ds : List PyData) (xs : List V), DtAll K H A xs ds → DtAll K H' A xs ds
  | [], _, h => by cases h; exact .nil
  | d :: ds, _, h => by cases h with | cons h1 h2 => exact .cons (Dt.same s d _ h1) (DtAll.same s ds _ h2)
end
mutual
/-- data for a comparison -/
theorem Dt.dp {H : Hp} {A : Option Addr} : ∀ (d : PyData) (v : V), Dt K H A v d → Dp K H v d
  | .none, _, h => by cases h; exact .non
  | .bool b, _, h => by cases h; exact .bl b
  | .int i, _, h => by cases h; exact .int i
  | .str z, _, h => by cases h; exact .str z
  | .list ds, _, h => by cases h with | lst hn ha hd => exact .lst (SqL.of ha) (DtAll.dp ds _ hd)
  | .tuple ds, _, h => by cases h with | tup ha hd => exact .tup ha.sq (DtAll.dp ds _ hd)
  | .dict _, _, h => by cases h
theorem DtAll.dp {H : Hp} {A : Option Addr} : ∀ (ds : List PyData) (xs : List V), DtAll K H A xs ds → DpAll K H xs ds
  | [], _, h => by cases h; exact .nil
  | d :: ds, _, h => by cases h with | cons h1 h2 => exact .cons (Dt.dp d _ h1) (DtAll.dp ds _ h2)
end
theorem Dt.on {H H' : Hp} {A : Option Addr} {v : V} {d : PyData} (h : Dt K H A v d) (s : Same H H') : Dt K H' A v d := Dt.same s d v h
theorem DtAll.on {H H' : Hp} {A : Option Addr} {xs : List V} {ds : List PyData} (h : DtAll K H A xs ds) (s : Same H H') : DtAll K H' A xs ds := DtAll.same s ds xs h
theorem Dt.by {H H' : Hp} {A D : Addr} {v : V} {d : PyData} (h : Dt K H (some A) v d) (s : Mod A H H') (dr : Dr H D A) : Dt K H' (some A) v d := Dt.mod s dr d v h
theorem DtAll.by {H H' : Hp} {A D : Addr} {xs : List V} {ds : List PyData} (h : DtAll K H (some A) xs ds) (s : Mod A H H') (dr : Dr H D A) : DtAll K H' (some A) xs ds := DtAll.mod s dr ds xs h
theorem Dt.two {H : Hp} {A : Option Addr} {v : V} {d : PyData} (h : Dt K H A v d) : (∃ a xs ds, v = .ref a ∧ d = .tuple ds ∧ TupAt K H a xs ∧ DtAll K H A xs ds) ∨ (∃ T, TyX K H v (.type T) ∧ kitB T "tuple" = some false ∧ ∀ ds, d ≠ .tuple ds) := by
  cases h with
  | tup ha hx => exact .inl ⟨_, _, _, rfl, rfl, ha, hx⟩
  | str z hz => exact .inr ⟨_, .base (.str z), by decide +kernel, fun _ z => nomatch z⟩
  | int i => exact .inr ⟨_, .base (.int i), by decide +kernel, fun _ z => nomatch z⟩
  | non => exact .inr ⟨_, .base .non, by decide +kernel, fun _ z => nomatch z⟩
  | bl b => exact .inr ⟨_, .base (.bl b), by decide +kernel, fun _ z => nomatch z⟩
  | lst _ ha _ => exact .inr ⟨_, .base (.lst ha), by decide +kernel, fun _ z => nomatch z⟩
/-- the kind of a value -/
def dTy : PyData → String
  | .none => "NoneType" | .bool _ => "bool" | .int _ => "int" | .str _ => "str" | .list _ => "list" | .tuple _ => "tuple" | .dict _ => "dict"
theorem Dt.ty {H : Hp} {A : Option Addr} {v : V} {d : PyData} (h : Dt K H A v d) : TyX K H v (.type (dTy d)) := by
  cases h with
  | non => exact .base .non
  | bl b => exact .base (.bl b)
  | int i => exact .base (.int i)
  | str z _ => exact .base (.str z)
  | lst _ ha _ => exact .base (.lst ha)
  | tup ha _ => exact ha.ty
/-! the predicates of the program, upon data -/
def dInt (lo hi : Int) : PyData → Bool
  | .int i => decide (lo ≤ i ∧ i ≤ hi)
  | _ => false
def dShort (m : Int) : PyData → Bool
  | .str z => isPr z && decide ((z.length : Int) ≤ m)
  | _ => false
def dCmd : PyData → Bool
  | .tuple [c, n, t] => dInt (-100) (-1) c && dInt 1 1000000000000 n && dShort 240 t
  | _ => false
def dClient : PyData → Int
  | .tuple (.int c :: _) => c
  | _ => 0
def dAfter : Option Int → PyData → Bool
  | some k, d => decide (k < dClient d)
  | none, _ => true
def befV : Option Int → V
  | some k => .int k
  | none => .non
def dCmdsFrom : Option Int → List PyData → Bool
  | _, [] => true
  | b, d :: r => dCmd d && dAfter b d && dCmdsFrom (some (dClient d)) r
theorem dCmdsFrom_cons (b : Option Int) (d : PyData) (r : List PyData) : dCmdsFrom b (d :: r) = (dCmd d && dAfter b d && dCmdsFrom (some (dClient d)) r) := by cases b <;> rfl
theorem dCmdsFrom_nil (b : Option Int) : dCmdsFrom b [] = true := by cases b <;> rfl
def dCmds : PyData → Bool
  | .tuple ds => dCmdsFrom none ds
  | _ => false
def dHeight (parent : Int) (h : PyData) : Bool := if parent = 0 then dInt 1 1 h else dInt 2 (parent + 1) h
def dBlock4 (e p h cs : PyData) : Bool := match e, p with
  | .int e, .int p => dInt 1 1000000000000 (.int e) && dInt 0 (e - 1) (.int p) && dHeight p h && dCmds cs
  | _, _ => false
def dBlock : PyData → Bool
  | .tuple [e, p, h, cs] => dBlock4 e p h cs
  | _ => false
def dEmpty : PyData → Bool
  | .tuple [] => true
  | _ => false
def dGen : PyData → Bool
  | .tuple [e, p, h, cs] => dInt 0 0 e && dInt 0 0 p && dInt 0 0 h && dEmpty cs
  | _ => false
theorem DtAll.four {H : Hp} {A : Option Addr} {xs : List V} {ds : List PyData} (h : DtAll K H A xs ds) (hl : xs.length = 4) :
    ∃ x1 x2 x3 x4 d1 d2 d3 d4, xs = [x1, x2, x3, x4] ∧ ds = [d1, d2, d3, d4] ∧ Dt K H A x1 d1 ∧ Dt K H A x2 d2 ∧ Dt K H A x3 d3 ∧ Dt K H A x4 d4 := by
  match xs, ds, h with
  | [_, _, _, _], _, .cons h1 (.cons h2 (.cons h3 (.cons h4 .nil))) => exact ⟨_, _, _, _, _, _, _, _, rfl, rfl, h1, h2, h3, h4⟩
theorem dBlock4_e1 {e p h cs : PyData} (z : dInt 1 1000000000000 e = false) : dBlock4 e p h cs = false := by
  unfold dBlock4
  split
  · rw [z]; rfl
  · rfl
theorem dBlock4_e2 {e : Int} {p h cs : PyData} (z : dInt 0 (e - 1) p = false) : dBlock4 (.int e) p h cs = false := by
  unfold dBlock4
  split
  · rename_i h1
    cases h1
    rw [z, Bool.and_false]; rfl
  · rfl
/-- a predicate of one value, kept by growing heaps -/
def spPred (K : PySem.W.Frag) (A : Option Addr) (f : PyData → Bool) : Sp := fun vs H Q _ => ∃ (v : V) (d : PyData), vs = [v] ∧ Dt K H A v d ∧ ∀ H', Same H H' → Q (.bl (f d)) H'
def spIntD (K : PySem.W.Frag) (A : Option Addr) : Sp := fun vs H Q _ => ∃ (v : V) (d : PyData) (lo hi : Int), vs = [v, .int lo, .int hi] ∧ Dt K H A v d ∧ Q (.bl (dInt lo hi d)) H
def spShortD (K : PySem.W.Frag) (A : Option Addr) : Sp := fun vs H Q _ => ∃ (v : V) (d : PyData) (m : Int), vs = [v, .int m] ∧ Dt K H A v d ∧ ∀ H', Same H H' → Q (.bl (dShort m d)) H'
theorem dInt_inv {lo hi : Int} {d : PyData} (h : dInt lo hi d = true) : ∃ i, d = .int i ∧ lo ≤ i ∧ i ≤ hi := by
  cases d with
  | int i =>
    have h : decide (lo ≤ i ∧ i ≤ hi) = true := h
    exact ⟨i, rfl, (of_decide_eq_true h).1, (of_decide_eq_true h).2⟩
  | none => cases h
  | bool b => cases h
  | str z => cases h
  | list ds => cases h
  | tuple ds => cases h
  | dict k => cases h
theorem dShort_inv {m : Int} {d : PyData} (h : dShort m d = true) : ∃ z : Str, d = .str z ∧ isPr z = true ∧ (z.length : Int) ≤ m := by
  cases d with
  | str z =>
    have h : (isPr z && decide ((z.length : Int) ≤ m)) = true := h
    obtain ⟨h1, h2⟩ := Bool.and_eq_true_iff.mp h
    exact ⟨z, rfl, h1, of_decide_eq_true h2⟩
  | none => cases h
  | bool b => cases h
  | int i => cases h
  | list ds => cases h
  | tuple ds => cases h
  | dict k => cases h
theorem dCmd_inv {d : PyData} (h : dCmd d = true) : ∃ (c n : Int) (t : Str), d = .tuple [.int c, .int n, .str t] ∧ -100 ≤ c ∧ c ≤ -1 ∧ 1 ≤ n ∧ n ≤ 1000000000000 ∧ isPr t = true ∧ (t.length : Int) ≤ 240 := by
  unfold dCmd at h
  split at h
  · rename_i c n t
    rw [Bool.and_eq_true, Bool.and_eq_true] at h
    obtain ⟨⟨h1, h2⟩, h3⟩ := h
    obtain ⟨c, rfl, c0, c1⟩ := dInt_inv h1
    obtain ⟨n, rfl, n0, n1⟩ := dInt_inv h2
    obtain ⟨t, rfl, t0, t1⟩ := dShort_inv h3
    exact ⟨c, n, t, rfl, c0, c1, n0, n1, t0, t1⟩
  · cases h
/-- what a tuple of three ints, ints, texts stands for -/
theorem Dt.three {H : Hp} {A : Option Addr} {v : V} {d1 d2 d3 : PyData} (h : Dt K H A v (.tuple [d1, d2, d3])) : ∃ a x1 x2 x3, v = .ref a ∧ TupAt K H a [x1, x2, x3] ∧ Dt K H A x1 d1 ∧ Dt K H A x2 d2 ∧ Dt K H A x3 d3 := by
  cases h with
  | tup ha hd =>
    cases hd with
    | cons h1 hd =>
      cases hd with
      | cons h2 hd =>
        cases hd with
        | cons h3 hd =>
          cases hd
          exact ⟨_, _, _, _, rfl, ha, h1, h2, h3⟩
mutual
theorem Dt.any {H : Hp} {A : Option Addr} : ∀ (d : PyData) (v : V), Dt K H A v d → Dt K H none v d
  | .none, _, h => by cases h; exact .non
  | .bool b, _, h => by cases h; exact .bl b
  | .int i, _, h => by cases h; exact .int i
  | .str z, _, h => by cases h with | str _ hz => exact .str z hz
  | .list ds, _, h => by cases h with | lst hn ha hd => exact .lst trivial ha (DtAll.any ds _ hd)
  | .tuple ds, _, h => by cases h with | tup ha hd => exact .tup ha (DtAll.any ds _ hd)
  | .dict _, _, h => by cases h
theorem DtAll.any {H : Hp} {A : Option Addr} : ∀ (ds : List PyData) (xs : List V), DtAll K H A xs ds → DtAll K H none xs ds
  | [], _, h => by cases h; exact .nil
  | d :: ds, _, h => by cases h with | cons h1 h2 => exact .cons (Dt.any d _ h1) (DtAll.any ds _ h2)
end
theorem Dt.an {H : Hp} {A : Option Addr} {v : V} {d : PyData} (h : Dt K H A v d) : Dt K H none v d := Dt.any d v h
/-! data without lists -/
mutual
def noL : PyData → Bool
  | .list _ => false
  | .tuple ds => noLs ds
  | _ => true
def noLs : List PyData → Bool
  | [] => true
  | d :: r => noL d && noLs r
end
/-- tracked tuples stay -/
def Tp (H H' : Hp) : Prop := ∀ a xs, H a = some (.tup xs) → H' a = some (.tup xs)
mutual
theorem Dt.keep {H H' : Hp} {A B : Option Addr} (t : Tp H H') : ∀ (d : PyData) (v : V), noL d = true → Dt K H A v d → Dt K H' B v d
  | .none, _, _, h => by cases h; exact .non
  | .bool b, _, _, h => by cases h; exact .bl b
  | .int i, _, _, h => by cases h; exact .int i
  | .str z, _, _, h => by cases h with | str _ hz => exact .str z hz
  | .list ds, _, n, _ => by cases n
  | .tuple ds, _, n, h => by cases h with | tup ha hd => exact .tup (ha.imp (t _ _) id) (DtAll.keep t ds _ n hd)
  | .dict _, _, _, h => by cases h
theorem DtAll.keep {H H' : Hp} {A B : Option Addr} (t : Tp H H') : ∀ (ds : List PyData) (xs : List V), noLs ds = true → DtAll K H A xs ds → DtAll K H' B xs ds
  | [], _, _, h => by cases h; exact .nil
  | d :: ds, _, n, h => by
    have n : (noL d && noLs ds) = true := n
    rw [Bool.and_eq_true] at n
    cases h with | cons h1 h2 => exact .cons (Dt.keep t d _ n.1 h1) (DtAll.keep t ds _ n.2 h2)
end
theorem DtAll.snoc {H : Hp} {A : Option Addr} : ∀ {xs : List V} {ds : List PyData} {x : V} {d : PyData}, DtAll K H A xs ds → Dt K H A x d → DtAll K H A (xs ++ [x]) (ds ++ [d])
  | _, _, _, _, .nil, h => .cons h .nil
  | _, _, _, _, .cons h r, h2 => .cons h (r.snoc h2)
theorem TupAt.tp {H H' : Hp} {a : Addr} {xs : List V} (h : TupAt K H a xs) (t : Tp H H') : TupAt K H' a xs := h.imp (t _ _) id
theorem Same.tp {H H' : Hp} (s : Same H H') : Tp H H' := fun _ _ h => s _ _ h
theorem Mod.tp {H H' : Hp} {A D : Addr} (s : Mod A H H') (dr : Dr H D A) : Tp H H' := fun a xs h => by
  obtain ⟨_, _, _, _, e, _⟩ := id dr
  exact s _ _ (ne_of h e (by intro z; cases z)) h
theorem tp_put {H : Hp} {l : Addr} {xs ys : List V} (h : H l = some (.lst xs)) : Tp H (upd H l (.lst ys)) := fun a zs e => by
  rw [upd_ne (ne_of e h (by intro z; cases z))]; exact e
theorem dCmd_noL {d : PyData} (h : dCmd d = true) : noL d = true := by
  obtain ⟨c, n, t, rfl, _⟩ := dCmd_inv h
  rfl
theorem dCmdsFrom_noL : ∀ {ds : List PyData} {b : Option Int}, dCmdsFrom b ds = true → noLs ds = true
  | [], _, _ => rfl
  | d :: r, b, h => by
    rw [dCmdsFrom_cons, Bool.and_eq_true, Bool.and_eq_true] at h
    show (noL d && noLs r) = true
    rw [dCmd_noL h.1.1, dCmdsFrom_noL h.2]; rfl
theorem dCmdsFrom_all : ∀ {ds : List PyData} {b : Option Int}, dCmdsFrom b ds = true → ∀ d ∈ ds, dCmd d = true
  | [], _, _, _, m => nomatch m
  | d :: r, b, h, e, m => by
    rw [dCmdsFrom_cons, Bool.and_eq_true, Bool.and_eq_true] at h
    rcases List.mem_cons.mp m with rfl | m
    · exact h.1.1
    · exact dCmdsFrom_all h.2 e m
def lastC : Option Int → List PyData → Option Int
  | b, [] => b
  | _, d :: r => lastC (some (dClient d)) r
theorem lastC_snoc : ∀ (ds : List PyData) (b : Option Int) (d : PyData), lastC b (ds ++ [d]) = some (dClient d)
  | [], _, _ => rfl
  | _ :: r, _, d => lastC_snoc r _ d
theorem dCmdsFrom_snoc : ∀ (ds : List PyData) (b : Option Int) (d : PyData), dCmdsFrom b (ds ++ [d]) = (dCmdsFrom b ds && (dCmd d && dAfter (lastC b ds) d))
  | [], b, d => by
    show dCmdsFrom b [d] = _
    rw [dCmdsFrom_cons, dCmdsFrom_nil, dCmdsFrom_nil, Bool.and_true, Bool.true_and]; rfl
  | e :: r, b, d => by
    show dCmdsFrom b (e :: (r ++ [d])) = _
    rw [dCmdsFrom_cons, dCmdsFrom_snoc r, dCmdsFrom_cons, Bool.and_assoc, Bool.and_assoc, Bool.and_assoc]; rfl
end
theorem noLs_all : ∀ {ds : List PyData}, (∀ d ∈ ds, noL d = true) → noLs ds = true
  | [], _ => rfl
  | d :: r, h => by
    show (noL d && noLs r) = true
    rw [h d List.mem_cons_self, noLs_all (fun e he => h e (List.mem_cons_of_mem _ he))]; rfl

theorem same_none {H H' : Hp} {p : Addr} (s : Same H H') (h : H' p = none) : H p = none := by
  cases e : H p with
  | none => rfl
  | some o => rw [s p o e] at h; cases h

/-! ### slices and sums of tuples, as data -/
def cutD (ds : List PyData) (lo hi : Option Int) : List PyData := (ds.drop (HT.sIx ds.length 0 lo)).take (HT.sIx ds.length ds.length hi - HT.sIx ds.length 0 lo)
theorem DtAll.drop {K : PySem.W.Frag} {H : Hp} {A : Option Addr} : ∀ {xs : List V} {ds : List PyData} (n : Nat), DtAll K H A xs ds → DtAll K H A (xs.drop n) (ds.drop n)
  | _, _, 0, h => h
  | _, _, _ + 1, .nil => .nil
  | _, _, n + 1, .cons _ r => r.drop n
theorem DtAll.take {K : PySem.W.Frag} {H : Hp} {A : Option Addr} : ∀ {xs : List V} {ds : List PyData} (n : Nat), DtAll K H A xs ds → DtAll K H A (xs.take n) (ds.take n)
  | _, _, 0, _ => by rw [List.take_zero, List.take_zero]; exact .nil
  | _, _, _ + 1, .nil => .nil
  | _, _, n + 1, .cons h r => .cons h (r.take n)
theorem DtAll.app {K : PySem.W.Frag} {H : Hp} {A : Option Addr} : ∀ {xs ys : List V} {ds es : List PyData}, DtAll K H A xs ds → DtAll K H A ys es → DtAll K H A (xs ++ ys) (ds ++ es)
  | _, _, _, _, .nil, h => h
  | _, _, _, _, .cons h r, h2 => .cons h (r.app h2)
theorem sl_dt {K : PySem.W.Frag} {H : Hp} {b : Addr} {xs : List V} {ds : List PyData} {lo hi : Option Int} {Q : VK} (ha : TupAt K H b xs) (hx : DtAll K H none xs ds) (q : ∀ H' v, Same H H' → Dt K H' none v (.tuple (cutD ds lo hi)) → Q v H') : rSlA K (.ref b) lo hi H Q := by
  have hl := hx.length
  refine ⟨b, xs, rfl, ha.sq, fun hw => q _ _ (Same.refl H) ?_, fun _ p hp => q _ _ (same_upd hp) (.tup (.inl upd_same) ?_)⟩
  · have e : cutD ds lo hi = ds := by
      unfold cutD
      rw [← hl, hw.1, hw.2, List.drop_zero, Nat.sub_zero, hl, List.take_of_length_le (Nat.le_refl _)]
    rw [e]
    exact .tup ha hx
  · unfold cutV cutD
    rw [← hl]
    exact ((hx.drop _).take _).on (same_upd hp)
theorem cat_dt {K : PySem.W.Frag} {H : Hp} {v u : V} {ds es : List PyData} {Q : VK} (hv : Dt K H none v (.tuple ds)) (hu : Dt K H none u (.tuple es)) (hl : ds.length + es.length ≤ 100000) (q : ∀ H' v', Same H H' → Dt K H' none v' (.tuple (ds ++ es)) → Q v' H') : rCatA K v u H Q := by
  cases hv with
  | tup ha hx =>
    cases hu with
    | tup hb hy =>
      rename_i a xs b ys
      have l1 := hx.length
      have l2 := hy.length
      refine ⟨a, b, xs, ys, rfl, rfl, ha.sq, hb.sq, sz1000 (by omega), fun e => q _ _ (Same.refl H) ?_, fun _ e => q _ _ (Same.refl H) ?_, fun _ _ p hp => q _ _ (same_upd hp) (.tup (.inl upd_same) ((hx.app hy).on (same_upd hp)))⟩
      · rw [e] at l1
        rw [List.length_eq_zero_iff.mp l1.symm]
        exact .tup hb hy
      · rw [e] at l2
        rw [List.length_eq_zero_iff.mp l2.symm, List.append_nil]
        exact .tup ha hx
theorem cutD_take (ds : List PyData) (j : Nat) : cutD ds none (some (j : Int)) = ds.take j := by
  unfold cutD
  rw [HT.sIx_nat, HT.sIx_none, List.drop_zero, Nat.sub_zero]
  rcases Nat.le_total j ds.length with h | h
  · rw [Nat.min_eq_left h]
  · rw [Nat.min_eq_right h, List.take_of_length_le (Nat.le_refl _), List.take_of_length_le h]
theorem cutD_drop (ds : List PyData) (j : Nat) : cutD ds (some (j : Int)) none = ds.drop j := by
  unfold cutD
  rw [HT.sIx_nat, HT.sIx_none]
  rcases Nat.le_total j ds.length with h | h
  · rw [Nat.min_eq_left h, List.take_of_length_le (by rw [List.length_drop]; exact Nat.le_refl _)]
  · rw [Nat.min_eq_right h, Nat.sub_self, List.take_zero, List.drop_of_length_le h]

theorem atI_lt {α : Type} {xs : List α} {i : Int} (h0 : 0 ≤ i) (h1 : i < xs.length) : ∃ v, v ∈ xs ∧ atI xs i = some v := by
  obtain ⟨j, rfl⟩ := Int.eq_ofNat_of_zero_le h0
  have hj : j < xs.length := Int.ofNat_lt.mp h1
  exact ⟨xs[j], List.getElem_mem hj, atI_nat (List.getElem?_eq_getElem hj)⟩

/-! ### dicts as lists of pairs -/
section
variable {κ α : Type} [DecidableEq κ]
def gA (ks : List (κ × α)) (c : κ) : Option α := (ks.find? fun k => decide (k.1 = c)).map (·.2)
def pA (ks : List (κ × α)) (c : κ) (x : α) : List (κ × α) := if (ks.any fun k => decide (k.1 = c)) = true then ks.map (fun k => if k.1 = c then (k.1, x) else k) else ks ++ [(c, x)]
/-- the pairs as they stand in a dict -/
def kvs (em : κ → Key) (f : α → V) (ks : List (κ × α)) : List (Key × V) := ks.map fun k => (em k.1, f k.2)
def kOk (ks : List (κ × α)) : Prop := (ks.map (·.1)).Nodup
theorem gA_kvs {em : κ → Key} (inj : ∀ a b, em a = em b → a = b) (f : α → V) : ∀ (ks : List (κ × α)) (c : κ), valV (kvs em f ks) (em c) = (gA ks c).map f
  | [], _ => rfl
  | k :: r, c => by
    have ih := gA_kvs inj f r c
    unfold kvs valV gA at ih ⊢
    rw [List.map_cons, List.find?_cons, List.find?_cons]
    by_cases h : k.1 = c
    · have h1 : decide (em k.1 = em c) = true := decide_eq_true (by rw [h])
      rw [h1, decide_eq_true h]; rfl
    · have h1 : decide (em k.1 = em c) = false := decide_eq_false (fun z => h (inj _ _ z))
      rw [h1, decide_eq_false h]; exact ih
theorem pA_kvs {em : κ → Key} (inj : ∀ a b, em a = em b → a = b) (f : α → V) (ks : List (κ × α)) (c : κ) (x : α) : putK (kvs em f ks) (em c) (f x) = kvs em f (pA ks c x) := by
  have e : ∀ k : κ × α, decide (em k.1 = em c) = decide (k.1 = c) := fun k => decide_eq_decide.mpr ⟨fun z => inj _ _ z, fun z => by rw [z]⟩
  unfold putK pA kvs
  rw [List.any_map, show ((fun kv : Key × V => decide (kv.1 = em c)) ∘ fun k : κ × α => (em k.1, f k.2)) = fun k => decide (k.1 = c) from funext e]
  split
  · rw [List.map_map, List.map_map]
    refine List.map_congr_left fun k _ => ?_
    show (if em k.1 = em c then (em k.1, f x) else (em k.1, f k.2)) = (fun k : κ × α => (em k.1, f k.2)) (if k.1 = c then (k.1, x) else k)
    by_cases h : k.1 = c
    · rw [if_pos h, if_pos (by rw [h])]
    · rw [if_neg h, if_neg (fun z => h (inj _ _ z))]
  · rw [List.map_append]; rfl
theorem pA_len (ks : List (κ × α)) (c : κ) (x : α) : (pA ks c x).length ≤ ks.length + 1 := by
  unfold pA
  split
  · rw [List.length_map]; omega
  · rw [List.length_append]; exact Nat.le_refl _
theorem kvs_len (em : κ → Key) (f : α → V) (ks : List (κ × α)) : (kvs em f ks).length = ks.length := List.length_map _
theorem any_mem {ks : List (κ × α)} {c : κ} : (ks.any fun k => decide (k.1 = c)) = true ↔ c ∈ ks.map (·.1) := by
  rw [List.any_eq_true, List.mem_map]
  constructor
  · rintro ⟨k, hk, e⟩; exact ⟨k, hk, of_decide_eq_true e⟩
  · rintro ⟨k, hk, e⟩; exact ⟨k, hk, decide_eq_true e⟩
theorem pA_keys (ks : List (κ × α)) (c : κ) (x : α) : (pA ks c x).map (·.1) = if c ∈ ks.map (·.1) then ks.map (·.1) else ks.map (·.1) ++ [c] := by
  unfold pA
  by_cases h : c ∈ ks.map (·.1)
  · rw [if_pos (any_mem.mpr h), if_pos h, List.map_map]
    refine List.map_congr_left fun k _ => ?_
    show (if k.1 = c then (k.1, x) else k).1 = k.1
    split <;> rfl
  · rw [if_neg (fun z => h (any_mem.mp z)), if_neg h, List.map_append]; rfl
theorem pA_ok {ks : List (κ × α)} (c : κ) (x : α) (h : kOk ks) : kOk (pA ks c x) := by
  unfold kOk at *
  rw [pA_keys]
  split
  · exact h
  · rename_i hn
    rw [List.nodup_append]
    refine ⟨h, by simp, fun a ha b hb => ?_⟩
    have hb : b = c := by simpa using hb
    rw [hb]
    intro e
    exact hn (e ▸ ha)
theorem gA_none {ks : List (κ × α)} {c : κ} : gA ks c = none ↔ c ∉ ks.map (·.1) := by
  unfold gA
  rw [Option.map_eq_none_iff, List.find?_eq_none]
  constructor
  · intro h m
    obtain ⟨k, hk, e⟩ := List.mem_map.mp m
    exact h k hk (decide_eq_true e)
  · intro h k hk e
    exact h (List.mem_map.mpr ⟨k, hk, of_decide_eq_true e⟩)
theorem gA_mem : ∀ {ks : List (κ × α)} {k : κ × α}, kOk ks → k ∈ ks → gA ks k.1 = some k.2
  | q :: r, k, h, m => by
    unfold kOk at h
    rw [List.map_cons, List.nodup_cons] at h
    unfold gA
    rw [List.find?_cons]
    rcases List.mem_cons.mp m with rfl | m
    · rw [decide_eq_true rfl]; rfl
    · by_cases e : q.1 = k.1
      · exact absurd (e ▸ List.mem_map_of_mem (f := (·.1)) m) h.1
      · rw [decide_eq_false e]
        exact gA_mem (ks := r) h.2 m
theorem gA_some {ks : List (κ × α)} {c : κ} {x : α} (h : gA ks c = some x) : (c, x) ∈ ks := by
  unfold gA at h
  rw [Option.map_eq_some_iff] at h
  obtain ⟨k, h1, rfl⟩ := h
  have h2 := List.find?_some h1
  have h3 := List.mem_of_find?_eq_some h1
  have : k.1 = c := of_decide_eq_true h2
  rw [← this]; exact h3
theorem pA_mem {ks : List (κ × α)} {c : κ} {x : α} {k : κ × α} (h : k ∈ pA ks c x) : k = (c, x) ∨ (k ∈ ks ∧ k.1 ≠ c) := by
  unfold pA at h
  split at h
  · obtain ⟨q, hq, e⟩ := List.mem_map.mp h
    by_cases hc : q.1 = c
    · rw [if_pos hc] at e; exact .inl (by rw [← e, hc])
    · rw [if_neg hc] at e; subst e; exact .inr ⟨hq, hc⟩
  · rename_i hn
    rcases List.mem_append.mp h with h | h
    · exact .inr ⟨h, fun e => hn (any_mem.mpr (List.mem_map.mpr ⟨k, h, e⟩))⟩
    · exact .inl (List.mem_singleton.mp h)
theorem gA_put {ks : List (κ × α)} (h : kOk ks) (c d : κ) (x : α) : gA (pA ks c x) d = if d = c then some x else gA ks d := by
  have h2 := pA_ok c x h
  by_cases e : d = c
  · subst e
    rw [if_pos rfl]
    have hm : d ∈ (pA ks d x).map (·.1) := by
      rw [pA_keys]; split
      · assumption
      · exact List.mem_append_right _ (List.mem_singleton.mpr rfl)
    obtain ⟨k, hk, ek⟩ := List.mem_map.mp hm
    have := gA_mem h2 hk
    rw [ek] at this
    rw [this]
    rcases pA_mem hk with e | ⟨_, e⟩
    · rw [e]
    · exact absurd ek e
  · rw [if_neg e]
    cases g : gA ks d with
    | none =>
      rw [gA_none] at g ⊢
      rw [pA_keys]
      split
      · exact g
      · intro m
        rcases List.mem_append.mp m with m | m
        · exact g m
        · exact e (List.mem_singleton.mp m)
    | some y =>
      have hm := gA_some g
      have : (d, y) ∈ pA ks c x := by
        unfold pA
        split
        · exact List.mem_map.mpr ⟨(d, y), hm, if_neg e⟩
        · exact List.mem_append_left _ hm
      exact gA_mem h2 this
theorem kvs_keys {em : κ → Key} {f : α → V} {ks : List (κ × α)} : (kvs em f ks).map (·.1) = (ks.map (·.1)).map em := by
  unfold kvs
  rw [List.map_map, List.map_map]; rfl
end
theorem inlI : ∀ a b : Int, (Sum.inl a : Key) = Sum.inl b → a = b := fun _ _ z => Sum.inl.inj z
theorem inrI : ∀ a b : Str, (Sum.inr a : Key) = Sum.inr b → a = b := fun _ _ z => Sum.inr.inj z

/-! ### data for comparisons: shape and depth -/
def Ly (k : Nat) (d : PyData) : Prop := d.canLay0 = true ∧ d.depth ≤ k
theorem ly_all {k : Nat} : ∀ {ds : List PyData}, (∀ d ∈ ds, Ly k d) → PyData.canLayAll0 ds = true ∧ PyData.depthAll ds ≤ k
  | [], _ => ⟨by simp [PyData.canLayAll0], by simp [PyData.depthAll]⟩
  | d :: r, h => by
    obtain ⟨i1, i2⟩ := ly_all fun z hz => h z (List.mem_cons_of_mem _ hz)
    obtain ⟨l1, l2⟩ := h d List.mem_cons_self
    constructor
    · rw [PyData.canLayAll0, i1, l1]; rfl
    · rw [PyData.depthAll]; omega
theorem ly_tup {k : Nat} {ds : List PyData} (h : ∀ d ∈ ds, Ly k d) : Ly (k + 1) (.tuple ds) := by
  obtain ⟨a, b⟩ := ly_all h
  exact ⟨by rw [PyData.canLay0]; exact a, by rw [PyData.depth]; omega⟩
theorem ly_lst {k : Nat} {ds : List PyData} (h : ∀ d ∈ ds, Ly k d) : Ly (k + 1) (.list ds) := by
  obtain ⟨a, b⟩ := ly_all h
  exact ⟨by rw [PyData.canLay0]; exact a, by rw [PyData.depth]; omega⟩
theorem ly_int {k : Nat} (i : Int) : Ly k (.int i) := ⟨by simp [PyData.canLay0], by simp [PyData.depth]⟩
theorem ly_non {k : Nat} : Ly k .none := ⟨by simp [PyData.canLay0], by simp [PyData.depth]⟩
theorem ly_bl {k : Nat} (b : Bool) : Ly k (.bool b) := ⟨by simp [PyData.canLay0], by simp [PyData.depth]⟩
theorem ly_str {k : Nat} {z : Str} (h : PyData.strOk z = true) : Ly k (.str z) := ⟨by simp [PyData.canLay0, h], by simp [PyData.depth]⟩
theorem Ly.mono {k j : Nat} {d : PyData} (h : Ly k d) (le : k ≤ j) : Ly j d := ⟨h.1, Nat.le_trans h.2 le⟩
theorem ly_nil {k : Nat} : ∀ d ∈ ([] : List PyData), Ly k d := fun _ m => nomatch m
theorem ly_cons {k : Nat} {d : PyData} {r : List PyData} (h : Ly k d) (hr : ∀ d ∈ r, Ly k d) : ∀ e ∈ d :: r, Ly k e := fun e m => by
  rcases List.mem_cons.mp m with rfl | m
  · exact h
  · exact hr e m
theorem ly_app {k : Nat} {r s : List PyData} (hr : ∀ d ∈ r, Ly k d) (hs : ∀ d ∈ s, Ly k d) : ∀ e ∈ r ++ s, Ly k e := fun e m => by
  rcases List.mem_append.mp m with m | m
  · exact hr e m
  · exact hs e m
theorem shpL {d : PyData} (h : Ly 20 d) : SeqAt.shaped d = true ∧ PyData.eqv d d = true := by
  refine ⟨?_, SeqAt.eqv_refl _ h.1⟩
  unfold SeqAt.shaped
  rw [h.1, decide_eq_true (by have := h.2; omega)]; rfl

section
open Calls
theorem kbm {X : Cx} {K : PySem.W.Frag} {T : String} {name : Str} {id : String} {r : V → List V → Hp → VK → Prop} {to : TE} {t : TA} {o e : Expr} {es : List Expr} {apos cpos : Pos} (pa : PlainAttrs T) (slot : Slot T name id) (hty : typeOf (.builtin id) = pure (.type "method_descriptor")) (hm : MtR X id r) (ho : PE X o to) (ha : PA X (e :: es) t)
    (hbase : attributeBase o name X.env (eval o X.env) = eval o X.env := by rfl)
    (hfew : ((backTo cpos (starEach (e :: es) X.env)).all (fun x => !x.1) && (backToKw cpos (keywordEach [] X.env)).all (fun x => x.1.isSome)
      && decide ((e :: es).length + ([] : List Keyword).length + (if ([] : List Keyword).isEmpty then 0 else 1) < 30)) = true := by rfl)
    (hline : (apos.endLine == cpos.line) = true := by rfl) (hs : starEach (e :: es) X.env = (false, eval e X.env) :: starEach es X.env := by rfl) (hplain : (backTo cpos (starEach es X.env)).any (·.1) = false := by rfl) (hK : X.K = K := by rfl) :
    PE X (.Call (.Attribute o name apos) (e :: es) [] cpos) (tBM K T r to t) := by
  subst hK
  exact pe_bm pa slot hty hm ho ha hbase hfew hline hs hplain
end

/-! ### list(d.values()).count(x): rules -/
section
variable {X : Cx}
theorem mt_dvals : MtR X "dict.values" (fun x xs H Q => ∃ (a : Addr) (kvs : List (Key × V)), x = .ref a ∧ xs = [] ∧ H a = some (.dK kvs) ∧ ∀ p, H p = none → Q (.ref p) (upd H p (viewO "dict_values" p a))) := by
  intro pins s σ H x xs v us Q I rx rxs h
  obtain ⟨a, kvs, rfl, rfl, ha, q⟩ := h
  cases rx
  cases rxs
  obtain ⟨_, hsys, vs, rel, dof⟩ := dk_of I.hok ha
  obtain ⟨ep, dat⟩ := dof.dictAt
  have dat' := dat
  obtain ⟨ob, es, ho, ex, hdat, hko, hpr, hnd⟩ := dat'
  refine call_meetsIn F.slot_dict_values ⟨ob, ho, ex.1⟩ F.entry_dict_values (F.args_dict_values_1 _) (meets_dict_values (mixKind X.prog X.w) a hsys) ⟨⟨vs, dof⟩, ?_⟩
  exact ⟨.ref s.heap.objs.size, _, I.laid (t' := s.toks) (fun b o q => Heap.get?_push_of_some _ q) (Nat.le_refl _) (viewO_ok (Heap.get?_push_size _ rfl)), rfl, q _ (I.hok.fresh (Nat.le_refl _))⟩
theorem call_listVals (hcalm : X.calm = true) : CallR X (.type "list") (fun xs H Q => ∃ (p a : Addr) (kvs : List (Key × V)), xs = [.ref p] ∧ H p = some (viewO "dict_values" p a) ∧ H a = some (.dK kvs) ∧ ∀ l, H l = none → Q (.ref l) (upd H l (.lst (kvs.map (·.2))))) := by
  intro pins s σ H xs us Q I r q
  obtain ⟨p, a, kvs, ex, hp, hd, q⟩ := q
  subst ex
  obtain ⟨u, eu, rx⟩ := vals1 r
  subst eu
  cases rx
  obtain ⟨z, lo, vs, rel, dd⟩ := dk_of I.hok hd
  obtain ⟨ep, hat⟩ := dd.dictAt
  have hv : s.heap.get? p = some (DSub.viewOb "dict_values" a) := (show ObjOk X.prog X.w H s.heap p (viewO "dict_values" p a) from I.hok p _ hp).1
  refine PySem.W.kdl_call (PySem.W.kdl_values (knd := mixKind X.prog X.w) (kvs := vs) (ep := ep)) (I.ok.hd hcalm) ⟨⟨_, hv, rfl, rfl⟩, hat⟩ (by rw [← rel.length]; exact z) fun h' tk acc c' hk hD hacc => ?_
  have hvv : Vals (kvs.map (·.2)) acc.toList := vals_of_at (by have e1 := hacc.1; have e2 := rel.length; rw [List.length_map, Array.length_toList]; exact e2.trans e1.symm) fun j x u hx hu => by
    obtain ⟨k, hk⟩ := hacc.2 j u (by rw [← Array.getElem?_toList]; exact hu)
    obtain ⟨y, h1, h2⟩ := KV.at' rel hk
    rw [List.getElem?_map, h1] at hx
    cases hx
    exact h2
  exact ⟨.ref s.heap.objs.size, upd H s.heap.objs.size (.lst (kvs.map (·.2))), I.laid (t' := tk) hk (Nat.le_refl _)
    (show ObjOk X.prog X.w _ _ _ (.lst (kvs.map (·.2))) from ⟨by rw [List.length_map]; exact z, acc.toList, c', hvv, by rw [Array.toArray_toList]; exact hD⟩), rfl, q _ (I.hok.fresh (Nat.le_refl _))⟩
def rCountD (K : PySem.W.Frag) : V → List V → Hp → VK → Prop := fun x xs H Q => ∃ (a : Addr) (y : V) (d : PyData) (ds : List PyData), x = V.ref a ∧ xs = [y] ∧ Dp K H (V.ref a) (.list ds) ∧ Dp K H y d ∧
  SeqAt.shaped (.list ds) = true ∧ SeqAt.shaped d = true ∧ Q (.int ((ds.countP fun z => PyData.eqv z d : Nat) : Int)) H
theorem mt_lcountD (hu : X.A.units + 65 < cLine) : MtR X "list.count" (rCountD X.K) := by
  intro pins s σ H x xs v us Q I rx rxs h
  obtain ⟨a, y, d, ds, rfl, rfl, hl, hy, sl, sd, q⟩ := h
  cases rx
  cases rxs with
  | cons ry rt =>
    rename_i uy ut
    cases rt
    obtain ⟨bs, r1⟩ := Dp.reads I d y uy hy ry
    have hxs : PyData.canLayAll0 ds = true := SeqAt.canLay_of_shaped sl
    have hroom : X.A.units + 1 + min (PyData.depthAll ds) d.depth < cLine := room_in_shaped sd hu
    cases hl with
    | lst hs ha =>
      obtain ⟨its, rv, ⟨⟨cls, dd, data, sls⟩, n, ho, hc, hdn, hdt⟩, hlen⟩ := I.list hs
      simp only at hc hdt
      subst hc hdt
      obtain ⟨as, h4⟩ := Dp.readsAll I ds _ its ha rv
      have hmap : its.map (SeqAt.readOf s.heap) = ds := SeqAt.readsAll_map ds its as hxs h4
      refine call_meets PySem.F.slot_list_count ⟨_, ho, rfl⟩ PySem.F.entry_list_count (PySem.F.args_list_count_2 _ _)
        (SeqAt.list_countAt a its.toArray n dd sls uy (fun u => PyData.eqv (SeqAt.readOf s.heap u) d)) ⟨ho, SeqAt.items_eqAt (vs := its.toArray) (show ReadsAll s.heap its.toArray.toList ds as from h4) r1 hxs (SeqAt.canLay_of_shaped sd) hroom, ?_⟩
      have ec : its.toArray.toList.countP (fun u => PyData.eqv (SeqAt.readOf s.heap u) d) = ds.countP fun z => PyData.eqv z d := by
        rw [← hmap, List.countP_map]; rfl
      refine ⟨.int ((ds.countP fun z => PyData.eqv z d : Nat) : Int), H, I.tok _, ⟨s.toks, ?_⟩, q⟩
      show Value.int ((its.toArray.toList.countP (fun u => PyData.eqv (SeqAt.readOf s.heap u) d) : Nat) : Int) s.toks = Value.int _ s.toks
      rw [ec]
end

/-! ### all but some addresses stand -/
def But (S : List Addr) (H H' : Hp) : Prop := ∀ b o, b ∉ S → H b = some o → H' b = some o
theorem Same.but {S : List Addr} {H H' : Hp} (s : Same H H') : But S H H' := fun b o _ h => s b o h
theorem But.trans {S : List Addr} {H H1 H2 : Hp} (a : But S H H1) (b : But S H1 H2) : But S H H2 := fun c o n h => b c o n (a c o n h)
theorem but_upd {S : List Addr} {a : Addr} {o : HO} {H : Hp} (h : a ∈ S) : But S H (upd H a o) := fun b u n e => by
  rw [upd_ne (fun z => n (by rw [z]; exact h))]; exact e
theorem tp_upd {H : Hp} {a : Addr} {o u : HO} (e : H a = some u) (n : ∀ xs, u ≠ .tup xs) : Tp H (upd H a o) := fun b xs f => by
  rw [upd_ne (fun z => by rw [z, e] at f; exact n xs (Option.some.inj f))]; exact f

/-! ### sorted(d), d a dict with text keys, of any length -/
def sortS (ks : List Str) : List Str := ks.mergeSort (PySem.W.dataLe false PyData.str)
theorem sortS_perm (ks : List Str) : (sortS ks).Perm ks := List.mergeSort_perm ks _
theorem sortS_len (ks : List Str) : (sortS ks).length = ks.length := (sortS_perm ks).length_eq
section
open PySem.W PyProof.Rows
theorem each_of_strs {us : List Value} {ks : List Str} (h : StrsAre us ks) : EachIs (fun v x => ∃ t, v = .str x t) us ks := by
  induction h with
  | nil => exact .nil
  | cons y t _ ih => exact .cons ⟨_, rfl⟩ ih
end
section
open PySem.W PyProof.Rows
variable {X : Cx}
theorem vals_strs : ∀ {us : List Value} {ks : List Str}, EachIs (fun v x => ∃ t, v = .str x t) us ks → Vals (ks.map V.str) us
  | _, _, .nil => .nil
  | _, _, .cons ⟨t, h1⟩ r => .cons ⟨t, h1⟩ (vals_strs r)
theorem call_sortedDS (hcalm : X.calm = true) (hu : X.A.units + 65 < cLine) : CallR X (.builtin "sorted") (fun xs H Q => ∃ (a : Addr) (kvs : List (Key × V)) (ks : List Str), xs = [.ref a] ∧ Rd H a (.dK kvs) ∧ kvs.map (·.1) = ks.map Sum.inr ∧ ks.length ≤ 100000 ∧
    ∀ p, H p = none → Q (.ref p) (upd H p (.lst ((sortS ks).map V.str)))) := by
  intro pins s σ H xs us Q I r q
  obtain ⟨a, kvs, ks, ex, hd, hks, h64, q⟩ := q
  subst ex
  obtain ⟨u, eu, rx⟩ := vals1 r
  subst eu
  cases rx
  obtain ⟨z, lo, vs, rel, dd⟩ := dk_rd I.hok hd
  obtain ⟨ep, hat⟩ := dd.dictAt
  have hkeys : vs.map (·.1) = ks.map Sum.inr := rel.keys.symm.trans hks
  have hl : vs.length = ks.length := by
    have e := congrArg List.length hkeys
    rw [List.length_map, List.length_map] at e
    exact e
  have h16 : vs.length ≤ sizeLine := by rw [hl]; exact sz1000 h64
  refine Calls.call_function_entry PyProof.Rows.kind_sorted PyProof.Rows.plain_sorted PyProof.Rows.entry_sorted (PyProof.Rows.args_sorted1 _) ?_
  unfold Builtin.«sorted»
  refine wpAny_bind (m := checkCount "sorted" 1 1 _) (wpAny_pure ?_)
  refine wpAny_bind (PySem.W.kdu_collect (A := X.A.in1) (PySem.W.kdl_dict (knd := mixKind X.prog X.w) (kvs := vs) (ep := ep) lo) (I.ok.hd hcalm) hat h16 fun h' tk acc hk hacc => ?_)
  have hal : acc.toList.length = ks.length := by rw [Array.length_toList, hacc.1, hl]
  have hS : StrsAre acc.toList ks := strs_at hal fun j v e => by
    obtain ⟨k, x, e1, e2⟩ := hacc.2 j v (by rw [← Array.getElem?_toList]; exact e)
    have e3 : (vs.map (·.1))[j]? = some k := by rw [List.getElem?_map, e1]; all_goals rfl
    rw [hkeys, List.getElem?_map] at e3
    cases e4 : ks[j]? with
    | none => rw [e4] at e3; cases e3
    | some y =>
      rw [e4] at e3
      have e5 : Sum.inr y = k := Option.some.inj e3
      subst e5
      obtain ⟨t, ev⟩ := Value.isStrOf_shape (x := y) (v := v) e2
      exact ⟨y, t, rfl, ev⟩
  have I1 : Inv X pins σ H { s with heap := h', toks := tk } := I.kept hk
  refine wpAny_bind (wpAny_newList ?_ (by rw [hal]; exact sz1000 h64))
  have hoL : (h'.push (seqObj "list" acc.toList.toArray 0)).get? h'.objs.size = some (seqObj "list" acc.toList.toArray 0) := Heap.get?_push_size _ rfl
  show wpAny _ _ _ _ _ { s with heap := h'.push (seqObj "list" acc.toList.toArray 0), toks := tk }
  have eS := each_of_strs hS
  refine wpAny_bind (wpAny_holding (list_sort_data (A := X.A.in1) (s := { s with heap := h'.push (seqObj "list" acc.toList.toArray 0), toks := tk }) (R := fun v x => ∃ t, v = .str x t) (enc := PyData.str) hoL eS (eS.mono fun v b h => by obtain ⟨t, e⟩ := h; exact ⟨[], by rw [e]; exact .str _ _, by simp⟩) (AllAlike.of fun b b' => by simp [alike]) (Sortable.others fun b => ⟨(by intro z; cases z), (by intro xs z; cases z)⟩) (sz1000 h64) (fun b _ => by show X.A.units + 1 + 1 + _ < _; simp only [PyData.depth]; omega) fun out ho eo => ?_))
  obtain ⟨e', he'⟩ := PyProof.Rows.sortedHeap_at (vs := acc.toList) (out := out.toArray) hoL
  have hlen : ((sortS ks).map V.str).length ≤ sizeLine := by
    rw [List.length_map, sortS_len]
    exact sz1000 h64
  refine wpAny_pure ⟨_, rfl, .ref h'.objs.size, upd H h'.objs.size (.lst ((sortS ks).map V.str)), I1.laid (t' := tk) (fun b u e => ?_) (Nat.le_refl _)
    (show ObjOk X.prog X.w _ _ _ (.lst ((sortS ks).map V.str)) from ⟨hlen, out, e', vals_strs eo, he'⟩), rfl, q _ (I1.hok.fresh (Nat.le_refl _))⟩
  have hb : b < h'.objs.size := Heap.lt_size e
  rw [PyProof.Rows.sortedHeap_old (Nat.ne_of_lt hb) (by rw [size_push']; exact Nat.lt_succ_of_lt hb)]
  exact Heap.get?_push_of_some _ e
end

/-! ### Refused(reason) -/
def spInit1 (C : Addr) (f : Str) : Sp := fun vs H Q _ => ∃ (a : Addr) (r : V), vs = [.ref a, r] ∧ H a = some (exo a C none) ∧
  ∀ d, H d = none → d ≠ a → Q .non (upd (upd H d (exd d [(f, r)])) a (exo a C (some d)))
theorem mk_one {C : Addr} {f : Str} {H1 : Hp} {Q : XK} {r : V} (q : ∀ H' d, Same H1 H' → H1 d = none → H' d = some (.xd [(f, r)]) → Q (.ref C) (some d) H') :
    ([r] : List V).length ≤ 1000 ∧ ∀ a, H1 a = none → spInit1 C f (.ref a :: ([r] ++ [])) (upd H1 a (exo a C none)) (fun v H2 => v = .non ∧ ∃ (d : Addr) (fs : List (Str × V)), H2 a = some (exo a C (some d)) ∧ H2 d = some (exd d fs) ∧ H1 d = none ∧ Q (.ref C) (some d) (upd (del H2 a) d (.xd fs))) (fun _ _ _ => False) := by
  refine ⟨by show 1 ≤ 1000; decide, fun a ha => ⟨a, r, rfl, upd_same, fun d hd hne => ⟨rfl, d, [(f, r)], upd_same, ?_, ?_, q _ d ?_ ?_ upd_same⟩⟩⟩
  · rw [upd_ne hne]; exact upd_same
  · rw [upd_ne hne] at hd; exact hd
  · intro b o e
    have hb : b ≠ d := fun z => by rw [z] at e; rw [upd_ne hne] at hd; rw [hd] at e; cases e
    have hba : b ≠ a := fun z => by rw [z, ha] at e; cases e
    rw [upd_ne hb, del_ne hba, upd_ne hba, upd_ne hb, upd_ne hba]
    exact e
  · rw [upd_ne hne] at hd; exact hd
/-- Refused(r) is raised -/
def Rz (B : Addr) (H : Hp) (E : XK) (r : Str) : Prop := ∀ H' d, Same H H' → H' d = some (.xd [("reason", .str r)]) → E (.ref B) (some d) H'
theorem Rz.on {B : Addr} {H H1 : Hp} {E : XK} {r : Str} (h : Rz B H E r) (s : Same H H1) : Rz B H1 E r := fun H' d s' e => h H' d (s.trans s') e
section
variable {P : Program} {w : World} {K : PySem.W.Frag} {mg : Str → Option Value} {base : Heap}
theorem i_Refused {C_Accounts : Addr} {C_Refused : Addr} (T : Txt K mg C_Accounts C_Refused) : ExMk P w K mg base 1 "Refused" C_Refused (spInit1 C_Refused "reason") := by
  refine exmk T.x_Refused T.ei_Refused sc_Refused____init__ (fun vs H Q E h => ?_) (fun f cdv A' outer s H vs Q E hr h => ?_)
  · obtain ⟨a, r, rfl, _⟩ := h; rfl
  obtain ⟨a, r, rfl, ha, q⟩ := h
  refine ⟨_, (pss_one (ps_ost (pv 0) (pv 1))), ?_⟩
  walk_at "rds"
  refine ⟨a, C_Refused, rfl, T.x_Refused.ox, T.xn_Refused_reason, .inl ⟨ha, fun d hd hne => ?_⟩⟩
  exact q d hd hne
end

/-! ### accounts -/
abbrev AB := List (Str × (Int × Int))
abbrev HS := List (Str × (Str × Str × Int))
abbrev HE := List (Str × (Addr × (Str × Str × Int)))
def aowD (ac : AB) : List (Key × V) := kvs Sum.inr (fun x => V.int x.1) ac
def baD (ac : AB) : List (Key × V) := kvs Sum.inr (fun x => V.int x.2) ac
def hoD (he : HE) : List (Key × V) := kvs Sum.inr (fun x => V.ref x.1) he
def hsOf (he : HE) : HS := he.map fun e => (e.1, e.2.2)
def holdV (x : Str × Str × Int) : List V := [.str x.1, .str x.2.1, .int x.2.2]
def rmA {κ α : Type} [DecidableEq κ] (ks : List (κ × α)) (c : κ) : List (κ × α) := ks.filter fun k => decide (k.1 ≠ c)
theorem dropK_rmA {κ α : Type} [DecidableEq κ] {em : κ → Key} (inj : ∀ a b, em a = em b → a = b) (f : α → V) (ks : List (κ × α)) (c : κ) : dropK (kvs em f ks) (em c) = kvs em f (rmA ks c) := by
  unfold dropK kvs rmA
  rw [List.filter_map]
  congr 1
  refine List.filter_congr fun k _ => ?_
  show decide (em k.1 ≠ em c) = decide (k.1 ≠ c)
  exact decide_eq_decide.mpr ⟨fun n z => n (by rw [z]), fun n z => n (inj _ _ z)⟩
theorem rmA_len {κ α : Type} [DecidableEq κ] (ks : List (κ × α)) (c : κ) : (rmA ks c).length ≤ ks.length := List.length_filter_le _ _
theorem rmA_ok {κ α : Type} [DecidableEq κ] {ks : List (κ × α)} (c : κ) (h : kOk ks) : kOk (rmA ks c) := List.Nodup.sublist (List.Sublist.map _ List.filter_sublist) h
theorem gA_rmA {κ α : Type} [DecidableEq κ] : ∀ (ks : List (κ × α)) (c d : κ), gA (rmA ks c) d = if d = c then none else gA ks d
  | [], c, d => by unfold rmA gA; rw [List.filter_nil, List.find?_nil]; split <;> rfl
  | e :: r, c, d => by
    have ih := gA_rmA r c d
    unfold rmA at ih ⊢
    rw [List.filter_cons]
    by_cases h : e.1 = c
    · rw [if_neg (by simp [h]), ih]
      by_cases hd : d = c
      · rw [if_pos hd, if_pos hd]
      · rw [if_neg hd, if_neg hd]
        unfold gA
        rw [List.find?_cons, decide_eq_false (fun z => hd (z.symm.trans h))]
    · rw [if_pos (by simp [h])]
      unfold gA at ih ⊢
      rw [List.find?_cons, List.find?_cons]
      by_cases hd : e.1 = d
      · rw [decide_eq_true hd, if_neg (fun z => h (hd.trans z))]
      · rw [decide_eq_false hd]; exact ih
theorem hsOf_keys (he : HE) : (hsOf he).map (fun k => k.1) = he.map (fun k => k.1) := by unfold hsOf; rw [List.map_map]; rfl
theorem hsOf_len (he : HE) : (hsOf he).length = he.length := List.length_map _
theorem gA_hsOf : ∀ (es : HE) (c : Str), gA (hsOf es) c = (gA es c).map (·.2)
  | [], _ => rfl
  | e :: r, c => by
    have ih := gA_hsOf r c
    unfold gA hsOf at ih ⊢
    rw [List.map_cons, List.find?_cons, List.find?_cons]
    by_cases h : e.1 = c
    · rw [decide_eq_true h]
      rfl
    · rw [decide_eq_false h]; exact ih
theorem pA_hsOf (es : HE) (c : Str) (x : Addr × (Str × Str × Int)) : hsOf (pA es c x) = pA (hsOf es) c x.2 := by
  unfold pA hsOf
  rw [List.any_map]
  have : ((fun k : Str × (Str × Str × Int) => decide (k.1 = c)) ∘ fun e : Str × (Addr × (Str × Str × Int)) => (e.1, e.2.2)) = fun k => decide (k.1 = c) := rfl
  rw [this]
  split
  · rw [List.map_map, List.map_map]
    refine List.map_congr_left fun k _ => ?_
    show (fun e : Str × (Addr × (Str × Str × Int)) => (e.1, e.2.2)) (if k.1 = c then (k.1, x) else k) = if k.1 = c then (k.1, x.2) else (k.1, k.2.2)
    split <;> rfl
  · rw [List.map_append]; rfl
theorem rmA_hsOf (es : HE) (c : Str) : hsOf (rmA es c) = rmA (hsOf es) c := by
  unfold rmA hsOf
  rw [List.filter_map]; rfl
theorem aow_val (ac : AB) (c : Str) : valV (aowD ac) (Sum.inr c : Key) = (gA ac c).map fun x => V.int x.1 := gA_kvs inrI _ ac c
theorem ba_val (ac : AB) (c : Str) : valV (baD ac) (Sum.inr c : Key) = (gA ac c).map fun x => V.int x.2 := gA_kvs inrI _ ac c
theorem ho_val (he : HE) (c : Str) : valV (hoD he) (Sum.inr c : Key) = (gA he c).map fun x => V.ref x.1 := gA_kvs inrI _ he c
def acF (n b h : Addr) (s : Int) : List (Str × V) := putF "_supply" (.int s) (putF "_holds" (.ref h) (putF "_balances" (.ref b) (putF "_owners" (.ref n) [])))
structure AcAt (C : Addr) (H : Hp) (p n b h : Addr) (ac : AB) (he : HE) (su : Int) : Prop where
  ins : ∃ dx, H p = some (.ins C dx (acF n b h su))
  ow : H n = some (.dK (aowD ac))
  ba : H b = some (.dK (baD ac))
  ho : H h = some (.dK (hoD he))
  tp : ∀ e ∈ he, H e.2.1 = some (.tup (holdV e.2.2))
  n1 : n ≠ b
  n2 : n ≠ h
  n3 : b ≠ h
theorem AcAt.on {C : Addr} {H H' : Hp} {p n b h : Addr} {ac : AB} {he : HE} {su : Int} (a : AcAt C H p n b h ac he su) (s : Same H H') : AcAt C H' p n b h ac he su := by
  obtain ⟨dx, g⟩ := a.ins
  exact ⟨⟨dx, s _ _ g⟩, s _ _ a.ow, s _ _ a.ba, s _ _ a.ho, fun e m => s _ _ (a.tp e m), a.n1, a.n2, a.n3⟩
section
variable {C : Addr} {H : Hp} {p n b h : Addr} {ac : AB} {he : HE} {su : Int}
theorem AcAt.pn (a : AcAt C H p n b h ac he su) : p ≠ n ∧ p ≠ b ∧ p ≠ h := by
  obtain ⟨dx, g⟩ := a.ins
  exact ⟨ne_of g a.ow (by intro z; cases z), ne_of g a.ba (by intro z; cases z), ne_of g a.ho (by intro z; cases z)⟩
/-- another supply -/
theorem AcAt.sup (a : AcAt C H p n b h ac he su) (s' : Int) {dx : Addr} (g : H p = some (.ins C dx (acF n b h su))) : AcAt C (upd H p (.ins C dx (acF n b h s'))) p n b h ac he s' := by
  obtain ⟨h1, h2, h3⟩ := a.pn
  exact ⟨⟨dx, upd_same⟩, by rw [upd_ne h1.symm]; exact a.ow, by rw [upd_ne h2.symm]; exact a.ba, by rw [upd_ne h3.symm]; exact a.ho, fun e m => by rw [upd_ne (ne_of (a.tp e m) g (by intro z; cases z))]; exact a.tp e m, a.n1, a.n2, a.n3⟩
theorem aow_same {k : Str} {x : Int × Int} (ok : kOk ac) (g : gA ac k = some x) (v : Int) : aowD (pA ac k (x.1, v)) = aowD ac := by
  have m : k ∈ ac.map (·.1) := List.mem_map.mpr ⟨_, gA_some g, rfl⟩
  unfold pA aowD kvs
  rw [if_pos (any_mem.mpr m), List.map_map]
  refine List.map_congr_left fun y my => ?_
  show (Sum.inr (if y.1 = k then (y.1, (x.1, v)) else y).1, V.int (if y.1 = k then (y.1, (x.1, v)) else y).2.1) = ((Sum.inr y.1 : Key), V.int y.2.1)
  by_cases e : y.1 = k
  · have := gA_mem ok my
    rw [e, g] at this
    rw [if_pos e, ← Option.some.inj this]
  · rw [if_neg e]
theorem ba_put (k : Str) (o v : Int) : putK (baD ac) (Sum.inr k) (V.int v) = baD (pA ac k (o, v)) := by unfold baD; rw [← pA_kvs inrI]
theorem aow_put (k : Str) (o v : Int) : putK (aowD ac) (Sum.inr k) (V.int o) = aowD (pA ac k (o, v)) := by unfold aowD; rw [← pA_kvs inrI]
theorem ho_put (k : Str) (t : Addr) (x : Str × Str × Int) : putK (hoD he) (Sum.inr k) (V.ref t) = hoD (pA he k (t, x)) := by unfold hoD; rw [← pA_kvs inrI]
/-- another balance -/
theorem AcAt.bal (a : AcAt C H p n b h ac he su) {k : Str} {x : Int × Int} (ok : kOk ac) (g : gA ac k = some x) (v : Int) : AcAt C (upd H b (.dK (baD (pA ac k (x.1, v))))) p n b h (pA ac k (x.1, v)) he su := by
  obtain ⟨h1, h2, h3⟩ := a.pn
  obtain ⟨dx, g0⟩ := a.ins
  exact ⟨⟨dx, by rw [upd_ne h2]; exact g0⟩, by rw [upd_ne a.n1, aow_same ok g v]; exact a.ow, upd_same, by rw [upd_ne a.n3.symm]; exact a.ho, fun e m => by rw [upd_ne (ne_of (a.tp e m) a.ba (by intro z; cases z))]; exact a.tp e m, a.n1, a.n2, a.n3⟩
/-- a new account -/
theorem AcAt.new (a : AcAt C H p n b h ac he su) (k : Str) (o v : Int) : AcAt C (upd (upd H n (.dK (aowD (pA ac k (o, v))))) b (.dK (baD (pA ac k (o, v))))) p n b h (pA ac k (o, v)) he su := by
  obtain ⟨h1, h2, h3⟩ := a.pn
  obtain ⟨dx, g0⟩ := a.ins
  exact ⟨⟨dx, by rw [upd_ne h2, upd_ne h1]; exact g0⟩, by rw [upd_ne a.n1]; exact upd_same, upd_same, by rw [upd_ne a.n3.symm, upd_ne a.n2.symm]; exact a.ho, fun e m => by rw [upd_ne (ne_of (a.tp e m) a.ba (by intro z; cases z)), upd_ne (ne_of (a.tp e m) a.ow (by intro z; cases z))]; exact a.tp e m, a.n1, a.n2, a.n3⟩
theorem AcAt.del (a : AcAt C H p n b h ac he su) (k : Str) : AcAt C (upd (upd H n (.dK (aowD (rmA ac k)))) b (.dK (baD (rmA ac k)))) p n b h (rmA ac k) he su := by
  obtain ⟨h1, h2, h3⟩ := a.pn
  obtain ⟨dx, g0⟩ := a.ins
  exact ⟨⟨dx, by rw [upd_ne h2, upd_ne h1]; exact g0⟩, by rw [upd_ne a.n1]; exact upd_same, upd_same, by rw [upd_ne a.n3.symm, upd_ne a.n2.symm]; exact a.ho, fun e m => by rw [upd_ne (ne_of (a.tp e m) a.ba (by intro z; cases z)), upd_ne (ne_of (a.tp e m) a.ow (by intro z; cases z))]; exact a.tp e m, a.n1, a.n2, a.n3⟩
/-- the holds -/
theorem AcAt.hold (a : AcAt C H p n b h ac he su) {k : Str} {t : Addr} {x : Str × Str × Int} (ht : H t = some (.tup (holdV x))) : AcAt C (upd H h (.dK (hoD (pA he k (t, x))))) p n b h ac (pA he k (t, x)) su := by
  obtain ⟨h1, h2, h3⟩ := a.pn
  obtain ⟨dx, g0⟩ := a.ins
  have key : ∀ c xs, H c = some (.tup xs) → upd H h (.dK (hoD (pA he k (t, x)))) c = some (.tup xs) := fun c xs e => by rw [upd_ne (ne_of e a.ho (by intro z; cases z))]; exact e
  exact ⟨⟨dx, by rw [upd_ne h3]; exact g0⟩, by rw [upd_ne a.n2]; exact a.ow, by rw [upd_ne a.n3]; exact a.ba, upd_same, fun e m => by
    rcases pA_mem m with rfl | ⟨m, _⟩
    · exact key _ _ ht
    · exact key _ _ (a.tp e m), a.n1, a.n2, a.n3⟩
theorem AcAt.free (a : AcAt C H p n b h ac he su) (k : Str) : AcAt C (upd H h (.dK (hoD (rmA he k)))) p n b h ac (rmA he k) su := by
  obtain ⟨h1, h2, h3⟩ := a.pn
  obtain ⟨dx, g0⟩ := a.ins
  exact ⟨⟨dx, by rw [upd_ne h3]; exact g0⟩, by rw [upd_ne a.n2]; exact a.ow, by rw [upd_ne a.n3]; exact a.ba, upd_same, fun e m => by
    have m := (List.mem_filter.mp m).1
    rw [upd_ne (ne_of (a.tp e m) a.ho (by intro z; cases z))]; exact a.tp e m, a.n1, a.n2, a.n3⟩
end
/-! what the operations do -/
structure AS where
  ac : AB
  ho : HS
  su : Int
def chk (s : AS) (n : Str) : Option Str := match gA s.ac n with
  | none => some "missing"
  | some _ => none
def chkO (s : AS) (c : Int) (n : Str) : Option Str := match gA s.ac n with
  | none => some "missing"
  | some x => if x.1 ≠ c then some "owner" else none
def chkF (s : AS) (n : Str) (a : Int) : Option Str := match gA s.ac n with
  | none => none
  | some x => if x.2 < a then some "funds" else none
def chkP (s : AS) (c : Int) (src tgt : Str) (a : Int) : Option Str := match chk s tgt with
  | some z => some z
  | none => match chkO s c src with
    | some z => some z
    | none => chkF s src a
def addB (ac : AB) (n : Str) (d : Int) : AB := match gA ac n with
  | none => ac
  | some x => pA ac n (x.1, x.2 + d)
def heldB (ho : HS) (n : Str) : Bool := ho.any fun e => decide (e.2.1 = n) || decide (e.2.2.1 = n)
def opCreate (s : AS) (c : Int) (n : Str) : Sum Str AS := match gA s.ac n with
  | some _ => .inl "taken"
  | none => if 100 ≤ s.ac.length then .inl "full" else .inr { s with ac := pA s.ac n (c, 0) }
def opClose (s : AS) (c : Int) (n : Str) : Sum Str AS := match chkO s c n with
  | some z => .inl z
  | none => match gA s.ac n with
    | none => .inl "missing"
    | some x => if x.2 ≠ 0 ∨ heldB s.ho n = true then .inl "busy" else .inr { s with ac := rmA s.ac n }
def opIssue (s : AS) (c : Int) (n : Str) (a : Int) : Sum Str AS := if c ≠ -1 then .inl "mint" else match chk s n with
  | some z => .inl z
  | none => if 1000000000000000 < s.su + a then .inl "limit" else .inr { s with ac := addB s.ac n a, su := s.su + a }
def opBurn (s : AS) (c : Int) (n : Str) (a : Int) : Sum Str AS := match chkO s c n with
  | some z => .inl z
  | none => match chkF s n a with
    | some z => .inl z
    | none => .inr { s with ac := addB s.ac n (-a), su := s.su - a }
def opPay (s : AS) (c : Int) (src tgt : Str) (a : Int) : Sum Str AS := match chkP s c src tgt a with
  | some z => .inl z
  | none => .inr { s with ac := addB (addB s.ac src (-a)) tgt a }
def opHold (s : AS) (c : Int) (src tgt : Str) (a : Int) (k : Str) : Sum Str AS := match chkP s c src tgt a with
  | some z => .inl z
  | none => match gA s.ho k with
    | some _ => .inl "taken"
    | none => if 100 ≤ s.ho.length then .inl "full" else .inr { s with ac := addB s.ac src (-a), ho := pA s.ho k (src, tgt, a) }
def opSettle (s : AS) (c : Int) (k : Str) : Sum Str AS := match gA s.ho k with
  | none => .inl "missing"
  | some x => match chkO s c x.1 with
    | some z => .inl z
    | none => .inr { s with ac := addB s.ac x.2.1 x.2.2, ho := rmA s.ho k }
def opRelease (s : AS) (c : Int) (k : Str) : Sum Str AS := match gA s.ho k with
  | none => .inl "missing"
  | some x => match chkO s c x.2.1 with
    | some z => .inl z
    | none => .inr { s with ac := addB s.ac x.1 x.2.2, ho := rmA s.ho k }
/-- the accounts stand so; each hold's two accounts are there -/
structure AW (C : Addr) (H : Hp) (p n b h : Addr) (he : HE) (s : AS) : Prop where
  at_ : AcAt C H p n b h s.ac he s.su
  hs : hsOf he = s.ho
  ok : kOk s.ac
  len : s.ac.length ≤ 1000
  hlen : s.ho.length ≤ 1000
  src : ∀ e ∈ s.ho, gA s.ac e.2.1 ≠ none ∧ gA s.ac e.2.2.1 ≠ none
def OutA (B C : Addr) (H : Hp) (p n b h : Addr) (Q : VK) (E : XK) (r : Sum Str AS) : Prop := match r with
  | .inl z => Rz B H E z
  | .inr s => ∀ H' he, But [p, n, b, h] H H' → AcAt C H' p n b h s.ac he s.su → hsOf he = s.ho → Q .non H'
def OutC (B : Addr) (H : Hp) (Q : VK) (E : XK) (r : Option Str) : Prop := match r with
  | some z => Rz B H E z
  | none => Q .non H
def spAcInit (C : Addr) : Sp := fun vs H Q _ => ∃ (p dx : Addr), vs = [.ref p] ∧ H p = some (.ins C dx []) ∧
  ∀ (H' : Hp) (n b h : Addr), (∀ c o, H c = some o → c ≠ p → H' c = some o) → H n = none → H b = none → H h = none → AcAt C H' p n b h [] [] 0 → Q .non H'
def spAcChk (B C : Addr) : Sp := fun vs H Q E => ∃ (p n b h : Addr) (he : HE) (s : AS) (k : Str), vs = [.ref p, .str k] ∧ AW C H p n b h he s ∧ OutC B H Q E (chk s k)
def spAcOwn (B C : Addr) : Sp := fun vs H Q E => ∃ (p n b h : Addr) (he : HE) (s : AS) (c : Int) (k : Str), vs = [.ref p, .int c, .str k] ∧ AW C H p n b h he s ∧ OutC B H Q E (chkO s c k)
def spAcFunds (B C : Addr) : Sp := fun vs H Q E => ∃ (p n b h : Addr) (he : HE) (s : AS) (k : Str) (a : Int), vs = [.ref p, .str k, .int a] ∧ AW C H p n b h he s ∧ gA s.ac k ≠ none ∧ OutC B H Q E (chkF s k a)
def spAcPaym (B C : Addr) : Sp := fun vs H Q E => ∃ (p n b h : Addr) (he : HE) (s : AS) (c : Int) (x y : Str) (a : Int), vs = [.ref p, .int c, .str x, .str y, .int a] ∧ AW C H p n b h he s ∧ OutC B H Q E (chkP s c x y a)
def spAcHoldOf (B C : Addr) : Sp := fun vs H Q E => ∃ (p n b h : Addr) (he : HE) (s : AS) (k : Str), vs = [.ref p, .str k] ∧ AW C H p n b h he s ∧ (gA he k = none → Rz B H E "missing") ∧ (∀ x, gA he k = some x → Q (.ref x.1) H)
def spAcHeld (C : Addr) : Sp := fun vs H Q _ => ∃ (p n b h : Addr) (he : HE) (s : AS) (k : Str), vs = [.ref p, .str k] ∧ AW C H p n b h he s ∧ ∀ H', Same H H' → Q (.bl (heldB s.ho k)) H'
def spAcCreate (B C : Addr) : Sp := fun vs H Q E => ∃ (p n b h : Addr) (he : HE) (s : AS) (c : Int) (k : Str), vs = [.ref p, .int c, .str k] ∧ AW C H p n b h he s ∧ OutA B C H p n b h Q E (opCreate s c k)
def spAcClose (B C : Addr) : Sp := fun vs H Q E => ∃ (p n b h : Addr) (he : HE) (s : AS) (c : Int) (k : Str), vs = [.ref p, .int c, .str k] ∧ AW C H p n b h he s ∧ OutA B C H p n b h Q E (opClose s c k)
def spAcIssue (B C : Addr) : Sp := fun vs H Q E => ∃ (p n b h : Addr) (he : HE) (s : AS) (c : Int) (k : Str) (a : Int), vs = [.ref p, .int c, .str k, .int a] ∧ AW C H p n b h he s ∧ OutA B C H p n b h Q E (opIssue s c k a)
def spAcBurn (B C : Addr) : Sp := fun vs H Q E => ∃ (p n b h : Addr) (he : HE) (s : AS) (c : Int) (k : Str) (a : Int), vs = [.ref p, .int c, .str k, .int a] ∧ AW C H p n b h he s ∧ OutA B C H p n b h Q E (opBurn s c k a)
def spAcPay (B C : Addr) : Sp := fun vs H Q E => ∃ (p n b h : Addr) (he : HE) (s : AS) (c : Int) (x y : Str) (a : Int), vs = [.ref p, .int c, .str x, .str y, .int a] ∧ AW C H p n b h he s ∧ OutA B C H p n b h Q E (opPay s c x y a)
def spAcHold (B C : Addr) : Sp := fun vs H Q E => ∃ (p n b h : Addr) (he : HE) (s : AS) (c : Int) (x y : Str) (a : Int) (k : Str), vs = [.ref p, .int c, .str x, .str y, .int a, .str k] ∧ AW C H p n b h he s ∧ OutA B C H p n b h Q E (opHold s c x y a k)
def spAcSettle (B C : Addr) : Sp := fun vs H Q E => ∃ (p n b h : Addr) (he : HE) (s : AS) (c : Int) (k : Str), vs = [.ref p, .int c, .str k] ∧ AW C H p n b h he s ∧ OutA B C H p n b h Q E (opSettle s c k)
def spAcRelease (B C : Addr) : Sp := fun vs H Q E => ∃ (p n b h : Addr) (he : HE) (s : AS) (c : Int) (k : Str), vs = [.ref p, .int c, .str k] ∧ AW C H p n b h he s ∧ OutA B C H p n b h Q E (opRelease s c k)


section
variable {P : Program} {w : World} {K : PySem.W.Frag} {mg : Str → Option Value} {base : Heap}
theorem k_Accounts {C_Accounts : Addr} {C_Refused : Addr} (T : Txt K mg C_Accounts C_Refused) : Mak P w K mg base 1 "Accounts" C_Accounts (spAcInit C_Accounts) [] := by
  refine mak T.g_Accounts T.mk_Accounts sc_Accounts____init__ (fun vs H Q E h => ?_) (fun f cdv A outer s H vs Q E hr h => ?_)
  · obtain ⟨p, dx, rfl, _⟩ := h; rfl
  obtain ⟨p, dx, rfl, hp, q⟩ := h
  have fresh : ∀ {H3 : Hp} {x : Addr}, (∀ c o, H c = some o → c ≠ p → H3 c = some o) → (∃ o, H3 p = some o) → H3 x = none → H x = none ∧ x ≠ p := fun {H3 x} k e z => by
    have n : x ≠ p := fun y => by obtain ⟨o, e⟩ := e; rw [y, e] at z; cases z
    refine ⟨?_, n⟩
    cases hx : H x with
    | none => rfl
    | some o => rw [k x o hx n] at z; cases z
  refine ⟨_, (pss_cons (ps_fld (pv 0) pe_dnewK rfl)
      (pss_cons (ps_fld (pv 0) pe_dnewK rfl)
      (pss_cons (ps_fld (pv 0) pe_dnewK rfl)
      (pss_one (ps_fld (pv 0) pe_int rfl))))), ?_⟩
  intro n hn
  have nnp : n ≠ p := (ne_of_none hp hn).symm
  walk_at "rds"
  refine ⟨p, _, dx, _, rfl, (same_upd hn) _ _ hp, T.cl_Accounts, T.na_Accounts__owners, by decide, ?_⟩
  have k1 : ∀ c o, H c = some o → c ≠ p → upd (upd H n (.dK [])) p (.ins C_Accounts dx (putF "_owners" (.ref n) [])) c = some o := fun c o e m => by rw [upd_ne m, upd_ne (ne_of_none e hn)]; exact e
  have p1 : upd (upd H n (.dK [])) p (.ins C_Accounts dx (putF "_owners" (.ref n) [])) p = some (.ins C_Accounts dx (putF "_owners" (.ref n) [])) := upd_same
  have n1 : upd (upd H n (.dK [])) p (.ins C_Accounts dx (putF "_owners" (.ref n) [])) n = some (.dK []) := by rw [upd_ne nnp]; exact upd_same
  generalize upd (upd H n (.dK [])) p (.ins C_Accounts dx (putF "_owners" (.ref n) [])) = H1 at k1 p1 n1
  intro b hb
  obtain ⟨hb0, bp⟩ := fresh k1 ⟨_, p1⟩ hb
  have nb : n ≠ b := ne_of_none n1 hb
  walk_at "rds"
  refine ⟨p, _, dx, _, rfl, (same_upd hb) _ _ p1, T.cl_Accounts, T.na_Accounts__balances, (by show 1 < 1000; decide), ?_⟩
  have k2 : ∀ c o, H c = some o → c ≠ p → upd (upd H1 b (.dK [])) p (.ins C_Accounts dx (putF "_balances" (.ref b) (putF "_owners" (.ref n) []))) c = some o := fun c o e m => by rw [upd_ne m]; exact (same_upd hb) _ _ (k1 c o e m)
  have p2 : upd (upd H1 b (.dK [])) p (.ins C_Accounts dx (putF "_balances" (.ref b) (putF "_owners" (.ref n) []))) p = some (.ins C_Accounts dx (putF "_balances" (.ref b) (putF "_owners" (.ref n) []))) := upd_same
  have n2 : upd (upd H1 b (.dK [])) p (.ins C_Accounts dx (putF "_balances" (.ref b) (putF "_owners" (.ref n) []))) n = some (.dK []) := by rw [upd_ne nnp]; exact (same_upd hb) _ _ n1
  have b2 : upd (upd H1 b (.dK [])) p (.ins C_Accounts dx (putF "_balances" (.ref b) (putF "_owners" (.ref n) []))) b = some (.dK []) := by rw [upd_ne bp]; exact upd_same
  generalize upd (upd H1 b (.dK [])) p (.ins C_Accounts dx (putF "_balances" (.ref b) (putF "_owners" (.ref n) []))) = H2 at k2 p2 n2 b2
  walk_at "rds"
  intro h hh
  obtain ⟨hh0, hp'⟩ := fresh k2 ⟨_, p2⟩ hh
  have nh : n ≠ h := ne_of_none n2 hh
  have bh : b ≠ h := ne_of_none b2 hh
  walk_at "rds"
  refine ⟨p, _, dx, _, rfl, (same_upd hh) _ _ p2, T.cl_Accounts, T.na_Accounts__holds, (by show 2 < 1000; decide), ?_⟩
  walk_at "rds"
  refine ⟨p, _, dx, _, rfl, upd_same, T.cl_Accounts, T.na_Accounts__supply, (by show 3 < 1000; decide), ?_⟩
  refine q _ n b h (fun c o e m => ?_) hn hb0 hh0 ⟨⟨dx, upd_same⟩, ?_, ?_, ?_, (fun _ m => nomatch m), nb, nh, bh⟩
  · rw [upd_ne m, upd_ne m]; exact (same_upd hh) _ _ (k2 c o e m)
  · rw [upd_ne nnp, upd_ne nnp]; exact (same_upd hh) _ _ n2
  · rw [upd_ne bp, upd_ne bp]; exact (same_upd hh) _ _ b2
  · rw [upd_ne hp', upd_ne hp']; exact upd_same
theorem m_Accounts___check {C_Accounts : Addr} {C_Refused : Addr} (T : Txt K mg C_Accounts C_Refused) : MetX P w K mg base 3 C_Accounts "_check" (spAcChk C_Refused C_Accounts) := by
  have i_Refused := i_Refused (P := P) (w := w) (base := base) T
  refine metX T.cl_Accounts T.me_Accounts___check sc_Accounts___check (fun vs H Q E h => ?_) (fun f cdv A outer s H vs Q E hr h => ?_)
  · obtain ⟨p, n, b, h, he, s, k, rfl, _⟩ := h; rfl
  obtain ⟨p, n, b, h, he, s, k, rfl, aw, out⟩ := h
  obtain ⟨dx, g⟩ := aw.at_.ins
  refine ⟨_, (pss_one (ps_if (pt_cmp (pc_dnotin (by exact hu_of hr) (pv 1) (pe_fld (pv 0) rfl))) (pss_one (ps_raise rfl (takes_of rfl rfl rfl rfl) (pmk_ei i_Refused hr (by decide) (by rfl) (pa_cons pe_str pa_nil)))) pss_nil)), ?_⟩
  walk_at "rds"
  refine ⟨p, _, dx, _, _, rfl, g, T.cl_Accounts, T.na_Accounts__owners, rfl, ?_⟩
  refine ⟨n, _, rfl, DGet.k (k := Sum.inr k) aw.at_.ow, ?_⟩
  rw [aow_val]
  unfold chk at out
  cases gk : gA s.ac k with
  | none =>
    rw [gk] at out
    walk_at "rds"
    exact mk_one fun H' d s1 _ hd => out H' d s1 hd
  | some x =>
    rw [gk] at out
    walk_at "rds"
    exact out
theorem m_Accounts___check_owner {C_Accounts : Addr} {C_Refused : Addr} (T : Txt K mg C_Accounts C_Refused) : MetX P w K mg base 4 C_Accounts "_check_owner" (spAcOwn C_Refused C_Accounts) := by
  have i_Refused := i_Refused (P := P) (w := w) (base := base) T
  have m_Accounts___check := m_Accounts___check (P := P) (w := w) (base := base) T
  refine metX T.cl_Accounts T.me_Accounts___check_owner sc_Accounts___check_owner (fun vs H Q E h => ?_) (fun f cdv A outer s H vs Q E hr h => ?_)
  · obtain ⟨p, n, b, h, he, s, c, k, rfl, _⟩ := h; rfl
  obtain ⟨p, n, b, h, he, s, c, k, rfl, aw, out⟩ := h
  obtain ⟨dx, g⟩ := aw.at_.ins
  refine ⟨_, (pss_cons (ps_expr (pe_mtX m_Accounts___check hr (by decide) (fun σ => passAt (takes_of rfl rfl rfl rfl) σ) (pv 0) (pa_cons (pv 2) pa_nil)))
      (pss_one (ps_if (pt_cmpR op_ne (pe_dget (by exact hu_of hr) (pe_fld (pv 0) rfl) (pv 2) (fun _ _ => rfl)) (pv 1) (nomark _)) (pss_one (ps_raise rfl (takes_of rfl rfl rfl rfl) (pmk_ei i_Refused hr (by decide) (by rfl) (pa_cons pe_str pa_nil)))) pss_nil))), ?_⟩
  walk_at "rds"
  refine ⟨p, dx, _, rfl, g, rfl, ?_⟩
  walk_at "rds"
  refine ⟨p, n, b, h, he, s, k, rfl, aw, ?_⟩
  unfold chkO at out
  cases gk : gA s.ac k with
  | none =>
    rw [gk] at out
    have e : chk s k = some ("missing" : Str) := by unfold chk; rw [gk]
    rw [e]
    exact out
  | some x =>
    rw [gk] at out
    have out : OutC C_Refused H Q E (if x.1 ≠ c then some "owner" else none) := out
    have e : chk s k = none := by unfold chk; rw [gk]
    rw [e]
    walk_at "rds"
    refine ⟨p, _, dx, _, _, rfl, g, T.cl_Accounts, T.na_Accounts__owners, rfl, ?_⟩
    walk_at "rds"
    refine ⟨n, _, rfl, .inl ⟨_, Sum.inr k, .inl aw.at_.ow, rfl, by rw [aow_val, gk]; rfl⟩, ?_⟩
    walk_at "rds"
    rw [decV']
    by_cases h : x.1 = c
    · rw [if_neg (fun n => n h)] at out
      refine ifF (by rw [decide_eq_true h]; rfl) ?_
      exact out
    · rw [if_pos h] at out
      refine ifT (by rw [decide_eq_false h]; rfl) ?_
      walk_at "rds"
      exact mk_one fun H' d s1 _ hd => out H' d s1 hd
theorem m_Accounts___check_funds {C_Accounts : Addr} {C_Refused : Addr} (T : Txt K mg C_Accounts C_Refused) : MetX P w K mg base 3 C_Accounts "_check_funds" (spAcFunds C_Refused C_Accounts) := by
  have i_Refused := i_Refused (P := P) (w := w) (base := base) T
  refine metX T.cl_Accounts T.me_Accounts___check_funds sc_Accounts___check_funds (fun vs H Q E h => ?_) (fun f cdv A outer s H vs Q E hr h => ?_)
  · obtain ⟨p, n, b, h, he, s, k, a, rfl, _⟩ := h; rfl
  obtain ⟨p, n, b, h, he, s, k, a, rfl, aw, g0, out⟩ := h
  obtain ⟨dx, g⟩ := aw.at_.ins
  refine ⟨_, (pss_one (ps_if (pt_cmpR op_lt (pe_dget (by exact hu_of hr) (pe_fld (pv 0) rfl) (pv 1) (fun _ _ => rfl)) (pv 2) (nomark _)) (pss_one (ps_raise rfl (takes_of rfl rfl rfl rfl) (pmk_ei i_Refused hr (by decide) (by rfl) (pa_cons pe_str pa_nil)))) pss_nil)), ?_⟩
  unfold chkF at out
  cases gk : gA s.ac k with
  | none => exact absurd gk g0
  | some x =>
    rw [gk] at out
    have out : OutC C_Refused H Q E (if x.2 < a then some "funds" else none) := out
    walk_at "rds"
    refine ⟨p, _, dx, _, _, rfl, g, T.cl_Accounts, T.na_Accounts__balances, rfl, ?_⟩
    walk_at "rds"
    refine ⟨b, _, rfl, .inl ⟨_, Sum.inr k, .inl aw.at_.ba, rfl, by rw [ba_val, gk]; rfl⟩, ?_⟩
    walk_at "rds"
    by_cases h : x.2 < a
    · rw [if_pos h] at out
      refine ifT (decide_eq_true h) ?_
      walk_at "rds"
      exact mk_one fun H' d s1 _ hd => out H' d s1 hd
    · rw [if_neg h] at out
      refine ifF (decide_eq_false h) ?_
      exact out
theorem m_Accounts___check_payment {C_Accounts : Addr} {C_Refused : Addr} (T : Txt K mg C_Accounts C_Refused) : MetX P w K mg base 5 C_Accounts "_check_payment" (spAcPaym C_Refused C_Accounts) := by
  have m_Accounts___check := m_Accounts___check (P := P) (w := w) (base := base) T
  have m_Accounts___check_owner := m_Accounts___check_owner (P := P) (w := w) (base := base) T
  have m_Accounts___check_funds := m_Accounts___check_funds (P := P) (w := w) (base := base) T
  refine metX T.cl_Accounts T.me_Accounts___check_payment sc_Accounts___check_payment (fun vs H Q E h => ?_) (fun f cdv A outer s H vs Q E hr h => ?_)
  · obtain ⟨p, n, b, h, he, s, c, x, y, a, rfl, _⟩ := h; rfl
  obtain ⟨p, n, b, h, he, s, c, x, y, a, rfl, aw, out⟩ := h
  obtain ⟨dx, g⟩ := aw.at_.ins
  refine ⟨_, (pss_cons (ps_expr (pe_mtX m_Accounts___check hr (by decide) (fun σ => passAt (takes_of rfl rfl rfl rfl) σ) (pv 0) (pa_cons (pv 3) pa_nil)))
      (pss_cons (ps_expr (pe_mtX m_Accounts___check_owner hr (by decide) (fun σ => passAt (takes_of rfl rfl rfl rfl) σ) (pv 0) (pa_cons (pv 1) (pa_cons (pv 2) pa_nil))))
      (pss_one (ps_expr (pe_mtX m_Accounts___check_funds hr (by decide) (fun σ => passAt (takes_of rfl rfl rfl rfl) σ) (pv 0) (pa_cons (pv 2) (pa_cons (pv 4) pa_nil))))))), ?_⟩
  unfold chkP at out
  walk_at "rds"
  refine ⟨p, dx, _, rfl, g, rfl, ?_⟩
  walk_at "rds"
  refine ⟨p, n, b, h, he, s, y, rfl, aw, ?_⟩
  cases e1 : chk s y with
  | some z => rw [e1] at out; exact out
  | none =>
    rw [e1] at out
    dsimp only at out
    walk_at "rds"
    refine ⟨p, dx, _, rfl, g, rfl, ?_⟩
    walk_at "rds"
    refine ⟨p, n, b, h, he, s, c, x, rfl, aw, ?_⟩
    cases e2 : chkO s c x with
    | some z => rw [e2] at out; exact out
    | none =>
      rw [e2] at out
      dsimp only at out
      have g0 : gA s.ac x ≠ none := fun z => by unfold chkO at e2; rw [z] at e2; cases e2
      walk_at "rds"
      refine ⟨p, dx, _, rfl, g, rfl, ?_⟩
      walk_at "rds"
      refine ⟨p, n, b, h, he, s, x, a, rfl, aw, g0, ?_⟩
      cases e3 : chkF s x a with
      | some z => rw [e3] at out; exact out
      | none => rw [e3] at out; exact out
theorem m_Accounts___hold_of {C_Accounts : Addr} {C_Refused : Addr} (T : Txt K mg C_Accounts C_Refused) : MetX P w K mg base 3 C_Accounts "_hold_of" (spAcHoldOf C_Refused C_Accounts) := by
  have i_Refused := i_Refused (P := P) (w := w) (base := base) T
  refine metX T.cl_Accounts T.me_Accounts___hold_of sc_Accounts___hold_of (fun vs H Q E h => ?_) (fun f cdv A outer s H vs Q E hr h => ?_)
  · obtain ⟨p, n, b, h, he, s, k, rfl, _⟩ := h; rfl
  obtain ⟨p, n, b, h, he, s, k, rfl, aw, hE, q⟩ := h
  obtain ⟨dx, g⟩ := aw.at_.ins
  refine ⟨_, (pss_cons (ps_if (pt_cmp (pc_dnotin (by exact hu_of hr) (pv 1) (pe_fld (pv 0) rfl))) (pss_one (ps_raise rfl (takes_of rfl rfl rfl rfl) (pmk_ei i_Refused hr (by decide) (by rfl) (pa_cons pe_str pa_nil)))) pss_nil)
      (pss_one (ps_ret (pe_dget (by exact hu_of hr) (pe_fld (pv 0) rfl) (pv 1) (fun _ _ => rfl))))), ?_⟩
  walk_at "rds"
  refine ⟨p, _, dx, _, _, rfl, g, T.cl_Accounts, T.na_Accounts__holds, rfl, ?_⟩
  refine ⟨h, _, rfl, DGet.k (k := Sum.inr k) aw.at_.ho, ?_⟩
  rw [ho_val]
  cases gk : gA he k with
  | none =>
    walk_at "rds"
    exact mk_one fun H' d s1 _ hd => hE gk H' d s1 hd
  | some x =>
    walk_at "rds"
    refine ⟨p, _, dx, _, _, rfl, g, T.cl_Accounts, T.na_Accounts__holds, rfl, ?_⟩
    walk_at "rds"
    refine ⟨h, _, rfl, .inl ⟨_, Sum.inr k, .inl aw.at_.ho, rfl, by rw [ho_val, gk]; rfl⟩, ?_⟩
    exact q x gk
end

theorem addB_some {ac : AB} {n : Str} {d : Int} {x : Int × Int} (g : gA ac n = some x) : addB ac n d = pA ac n (x.1, x.2 + d) := by unfold addB; rw [g]
theorem addB_ok {ac : AB} (n : Str) (d : Int) (ok : kOk ac) : kOk (addB ac n d) := by
  unfold addB
  split
  · exact ok
  · exact pA_ok _ _ ok
theorem addB_get {ac : AB} {n m : Str} {d : Int} (ok : kOk ac) (g : gA ac m ≠ none) : gA (addB ac n d) m ≠ none := by
  cases h : gA ac n with
  | none => unfold addB; rw [h]; exact g
  | some x =>
    rw [addB_some h, gA_put ok]
    split
    · intro z; cases z
    · exact g
theorem addB_len {ac : AB} {n : Str} {d : Int} (h : gA ac n ≠ none) : (addB ac n d).length = ac.length := by
  cases g : gA ac n with
  | none => exact absurd g h
  | some x =>
    rw [addB_some g]
    have m : n ∈ ac.map (·.1) := List.mem_map.mpr ⟨_, gA_some g, rfl⟩
    unfold pA
    rw [if_pos (any_mem.mpr m), List.length_map]
theorem some_of {α : Type} {o : Option α} (h : o ≠ none) : ∃ x, o = some x := by
  cases o with
  | none => exact absurd rfl h
  | some x => exact ⟨x, rfl⟩
theorem chkO_none {s : AS} {c : Int} {n : Str} (h : chkO s c n = none) : ∃ x, gA s.ac n = some x ∧ x.1 = c := by
  unfold chkO at h
  cases g : gA s.ac n with
  | none => rw [g] at h; cases h
  | some x =>
    rw [g] at h
    have h : (if x.1 ≠ c then some ("owner" : Str) else none) = none := h
    by_cases e : x.1 = c
    · exact ⟨x, rfl, e⟩
    · rw [if_pos e] at h; cases h
theorem chk_none {s : AS} {n : Str} (h : chk s n = none) : ∃ x, gA s.ac n = some x := by
  unfold chk at h
  cases g : gA s.ac n with
  | none => rw [g] at h; cases h
  | some x => exact ⟨x, rfl⟩
theorem chkP_none {s : AS} {c : Int} {x y : Str} {a : Int} (h : chkP s c x y a = none) : (∃ u, gA s.ac x = some u) ∧ ∃ v, gA s.ac y = some v := by
  unfold chkP at h
  cases e1 : chk s y with
  | some z => rw [e1] at h; cases h
  | none =>
    rw [e1] at h
    dsimp only at h
    cases e2 : chkO s c x with
    | some z => rw [e2] at h; cases h
    | none =>
      obtain ⟨u, gu, _⟩ := chkO_none e2
      exact ⟨⟨u, gu⟩, chk_none e1⟩
section
variable {P : Program} {w : World} {K : PySem.W.Frag} {mg : Str → Option Value} {base : Heap}
theorem inV_two (k s t : Str) : inV (V.str k) [V.str s, V.str t] = (decide (s = k) || decide (t = k)) := by
  unfold inV
  rw [List.any_cons, List.any_cons, List.any_nil, Bool.or_false]
  rfl
theorem m_Accounts___is_held {C_Accounts : Addr} {C_Refused : Addr} (T : Txt K mg C_Accounts C_Refused) : Met P w K mg base 1 C_Accounts "_is_held" (spAcHeld C_Accounts) [] := by
  refine met T.cl_Accounts T.me_Accounts___is_held sc_Accounts___is_held (fun vs H Q E h => ?_) (fun f cdv A outer s H vs Q E hr h => ?_)
  · obtain ⟨p, n, b, h, he, s, k, rfl, _⟩ := h; rfl
  obtain ⟨p, n, b, h, he, s, k, rfl, aw, q⟩ := h
  obtain ⟨dx, g⟩ := aw.at_.ins
  refine ⟨_, (pss_one (ps_ret (pe_callB (cr_any rfl) (by rfl) T.z_any (by decide +kernel) (pa_cons (pe_lc (own := [("hold", 2)]) (g := gName 2) (by rfl) sc_Accounts___is_held.nd (pi_list (pe_callTy (call_listVals rfl) (by rfl) T.z_list (by decide +kernel) (pa_cons (pe_bm0 PySem.F.plainAttrs_dict PySem.F.slot_dict_values PySem.F.type_dict_values mt_dvals (pe_fld (pv 0) rfl)) pa_nil))) (blkOk_by (own := [("hold", 2)]) (N := ["self", "name", "hold"]) (sc := defScope s_Accounts___is_held) (by decide +kernel)) (fun _ _ _ _ _ => pg_name (i := 2) sc_Accounts___is_held.nd rfl (Or.inl rfl)) (fun _ _ _ _ _ => pts_nil) (fun _ _ _ _ _ => (pe_cmpR (kin (K := K)) (pv 1) (pe_slice (ksla (K := K)) (pv 2) po_none (po_some pe_int)) (by rfl)))) pa_nil)))), ?_⟩
  walk_at "rds"
  refine ⟨p, _, dx, _, _, rfl, g, T.cl_Accounts, T.na_Accounts__holds, rfl, ?_⟩
  refine ⟨.inr (.inr (.inl ⟨rfl, .inl ⟨_, aw.at_.ho⟩⟩)), ?_⟩
  refine ⟨h, _, rfl, rfl, aw.at_.ho, fun pv hpv => ?_⟩
  walk_at "rds"
  refine ⟨pv, h, _, rfl, upd_same, (same_upd hpv) _ _ aw.at_.ho, fun l hl => ?_⟩
  have s1 := (same_upd (o := viewO "dict_values" pv h) hpv).trans (same_upd (o := .lst ((hoD he).map (·.2))) hl)
  have el : upd (upd H pv (viewO "dict_values" pv h)) l (.lst ((hoD he).map (·.2))) l = some (.lst (he.map fun e => V.ref e.2.1)) := by
    rw [upd_same]; unfold hoD kvs; rw [List.map_map]; rfl
  generalize upd (upd H pv (viewO "dict_values" pv h)) l (.lst ((hoD he).map (·.2))) = H1 at s1 el
  have a1 := aw.at_.on s1
  have lh : he.length ≤ 1000 := by have := aw.hlen; rw [← aw.hs, hsOf_len] at this; exact this
  walk_at "rds"
  refine ⟨⟨_, sq el⟩, fun M hM => ?_⟩
  refine lc_it (walk_list (K := K) (a := l) (xs := he.map fun e => V.ref e.2.1)) (Pv := fun j H' => Same H1 H' ∧ H' M = some (.lst (((he.take j).map fun e => decide (e.2.2.1 = k) || decide (e.2.2.2.1 = k)).map V.bl))) ⟨same_upd hM, upd_same⟩ (fun _ _ _ h => sq (h.1 _ _ el)) (fun j x H6 H7 hj hp hy => ?_) (fun H6 hp => ?_)
  · obtain ⟨s6, eM⟩ := hp
    obtain ⟨rfl, gx⟩ := hy
    rw [List.length_map] at hj
    have gb : he[j]? = some he[j] := List.getElem?_eq_getElem hj
    rw [List.getElem?_map, gb] at gx
    obtain rfl : V.ref he[j].2.1 = x := Option.some.inj gx
    have ht := s6 _ _ (a1.tp _ (List.getElem_mem hj))
    have tk : ((he.take (j + 1)).map fun e => decide (e.2.2.1 = k) || decide (e.2.2.2.1 = k)) = ((he.take j).map fun e => decide (e.2.2.1 = k) || decide (e.2.2.2.1 = k)) ++ [decide (he[j].2.2.1 = k) || decide (he[j].2.2.2.1 = k)] := by
      rw [List.take_add_one, gb, List.map_append]; rfl
    have ll : ((he.take j).map fun e => decide (e.2.2.1 = k) || decide (e.2.2.2.1 = k)).length ≤ 1000 := by rw [List.length_map, List.length_take]; omega
    generalize (he.take j).map (fun e => decide (e.2.2.1 = k) || decide (e.2.2.2.1 = k)) = acc at eM tk ll
    generalize he[j] = e at ht tk
    refine ⟨rfl, tyes ?_⟩
    walk_at "rds"
    refine ⟨e.2.1, _, rfl, SqT.of ht, fun hw => absurd hw.2 (show ¬ HT.sIx 3 3 (some 2) = 3 by decide), fun _ t2 ht2 => ?_⟩
    have e2 : upd H7 t2 (.tup (cutV (holdV e.2.2) none (some 2))) t2 = some (.tup [.str e.2.2.1, .str e.2.2.2.1]) := upd_same
    have s7 := s6.trans (same_upd (o := .tup (cutV (holdV e.2.2) none (some 2))) ht2)
    have eM2 := (same_upd (o := .tup (cutV (holdV e.2.2) none (some 2))) ht2) _ _ eM
    generalize upd H7 t2 (.tup (cutV (holdV e.2.2) none (some 2))) = H8 at e2 s7 eM2
    walk_at "rds"
    refine ⟨t2, _, rfl, .inr (SqT.of e2), rfl, rfl, ?_⟩
    rw [if_neg (by decide), inV_two]
    exact ⟨_, eM2, sz1000' (by rw [List.length_map]; omega), same_mut s7 hM, by rw [upd_same, tk, List.map_append]; rfl⟩
  obtain ⟨s6, eM⟩ := hp
  rw [List.length_map, List.take_of_length_le (Nat.le_refl _)] at eM
  walk_at "rds"
  refine ⟨M, _, rfl, sq eM, ?_⟩
  have e1 : (he.map fun e => decide (e.2.2.1 = k) || decide (e.2.2.2.1 = k)).any id = heldB s.ho k := by
    unfold heldB
    rw [← aw.hs]
    unfold hsOf
    rw [List.any_map, List.any_map]
    rfl
  rw [e1]
  exact q _ (s1.trans s6)
theorem m_Accounts__create {C_Accounts : Addr} {C_Refused : Addr} (T : Txt K mg C_Accounts C_Refused) : MetX P w K mg base 3 C_Accounts "create" (spAcCreate C_Refused C_Accounts) := by
  have i_Refused := i_Refused (P := P) (w := w) (base := base) T
  refine metX T.cl_Accounts T.me_Accounts__create sc_Accounts__create (fun vs H Q E h => ?_) (fun f cdv A outer s H vs Q E hr h => ?_)
  · obtain ⟨p, n, b, h, he, s, c, k, rfl, _⟩ := h; rfl
  obtain ⟨p, n, b, h, he, s, c, k, rfl, aw, out⟩ := h
  obtain ⟨dx, g⟩ := aw.at_.ins
  obtain ⟨hpn, hpb, hph⟩ := aw.at_.pn
  have la := aw.len
  unfold opCreate at out
  refine ⟨_, (pss_cons (ps_if (pt_cmp (pc_din (by exact hu_of hr) (pv 2) (pe_fld (pv 0) rfl))) (pss_one (ps_raise rfl (takes_of rfl rfl rfl rfl) (pmk_ei i_Refused hr (by decide) (by rfl) (pa_cons pe_str pa_nil)))) pss_nil)
      (pss_cons (ps_if (pt_cmpR op_ge (pe_callB call_lenD (by rfl) T.z_len (by decide +kernel) (pa_cons (pe_fld (pv 0) rfl) pa_nil)) (pe_gc (by rfl) T.c_ACCOUNT_LIMIT) (nomark _)) (pss_one (ps_raise rfl (takes_of rfl rfl rfl rfl) (pmk_ei i_Refused hr (by decide) (by rfl) (pa_cons pe_str pa_nil)))) pss_nil)
      (pss_cons (ps_dput (hu_of hr) (pe_fld (pv 0) rfl) (pv 2) (pv 1) rfl)
      (pss_one (ps_dput (hu_of hr) (pe_fld (pv 0) rfl) (pv 2) pe_int rfl))))), ?_⟩
  walk_at "rds"
  refine ⟨p, _, dx, _, _, rfl, g, T.cl_Accounts, T.na_Accounts__owners, rfl, ?_⟩
  refine ⟨n, _, rfl, DGet.k (k := Sum.inr k) aw.at_.ow, ?_⟩
  rw [aow_val]
  cases gk : gA s.ac k with
  | some x =>
    rw [gk] at out
    walk_at "rds"
    exact mk_one fun H' d s1 _ hd => out H' d s1 hd
  | none =>
    rw [gk] at out
    have out : OutA C_Refused C_Accounts H p n b h Q E (if 100 ≤ s.ac.length then .inl "full" else .inr { s with ac := pA s.ac k (c, 0) }) := out
    walk_at "rds"
    refine ⟨p, _, dx, _, _, rfl, g, T.cl_Accounts, T.na_Accounts__owners, rfl, ?_⟩
    walk_at "rds"
    refine ⟨n, _, rfl, aw.at_.ow, ?_⟩
    rw [show (aowD s.ac).length = s.ac.length from kvs_len _ _ _]
    walk_at "rds"
    by_cases hl : 100 ≤ s.ac.length
    · rw [if_pos hl] at out
      refine ifT (decide_eq_true (by omega)) ?_
      walk_at "rds"
      exact mk_one fun H' d s1 _ hd => out H' d s1 hd
    · rw [if_neg hl] at out
      refine ifF (decide_eq_false (by omega)) ?_
      walk_at "rds"
      refine ⟨p, _, dx, _, _, rfl, g, T.cl_Accounts, T.na_Accounts__owners, rfl, ?_⟩
      walk_at "rds"
      refine ⟨n, _, rfl, DPut.k (k := Sum.inr k) aw.at_.ow (by unfold aowD; rw [kvs_len]; exact sz1000' (by omega)), ?_⟩
      rw [aow_put k c 0]
      walk_at "rds"
      refine ⟨p, _, dx, _, _, rfl, (by rw [upd_ne hpn]; exact g), T.cl_Accounts, T.na_Accounts__balances, rfl, ?_⟩
      walk_at "rds"
      refine ⟨b, _, rfl, DPut.k (k := Sum.inr k) (by rw [upd_ne aw.at_.n1.symm]; exact aw.at_.ba) (by unfold baD; rw [kvs_len]; exact sz1000' (by omega)), ?_⟩
      rw [ba_put k c 0]
      exact out _ he (.trans (but_upd (by simp)) (but_upd (by simp))) (aw.at_.new k c 0) aw.hs
theorem m_Accounts__close {C_Accounts : Addr} {C_Refused : Addr} (T : Txt K mg C_Accounts C_Refused) : MetX P w K mg base 5 C_Accounts "close" (spAcClose C_Refused C_Accounts) := by
  have i_Refused := i_Refused (P := P) (w := w) (base := base) T
  have m_Accounts___check_owner := m_Accounts___check_owner (P := P) (w := w) (base := base) T
  have m_Accounts___is_held := m_Accounts___is_held (P := P) (w := w) (K := K) (base := base) T
  refine metX T.cl_Accounts T.me_Accounts__close sc_Accounts__close (fun vs H Q E h => ?_) (fun f cdv A outer s H vs Q E hr h => ?_)
  · obtain ⟨p, n, b, h, he, s, c, k, rfl, _⟩ := h; rfl
  obtain ⟨p, n, b, h, he, s, c, k, rfl, aw, out⟩ := h
  obtain ⟨dx, g⟩ := aw.at_.ins
  unfold opClose at out
  refine ⟨_, (pss_cons (ps_expr (pe_mtX m_Accounts___check_owner hr (by decide) (fun σ => passAt (takes_of rfl rfl rfl rfl) σ) (pv 0) (pa_cons (pv 1) (pa_cons (pv 2) pa_nil))))
      (pss_cons (ps_if (PW.pt (pw_or (pt_cmpR op_ne (pe_dget (by exact hu_of hr) (pe_fld (pv 0) rfl) (pv 2) (fun _ _ => rfl)) pe_int (nomark _)) (pw_or1 (pt_val (pe_mt m_Accounts___is_held hr (by decide) (pv 0) (pa_cons (pv 2) pa_nil)))))) (pss_one (ps_raise rfl (takes_of rfl rfl rfl rfl) (pmk_ei i_Refused hr (by decide) (by rfl) (pa_cons pe_str pa_nil)))) pss_nil)
      (pss_cons (ps_ddel (pe_fld (pv 0) rfl) (pv 2))
      (pss_one (ps_ddel (pe_fld (pv 0) rfl) (pv 2)))))), ?_⟩
  walk_at "rds"
  refine ⟨p, dx, _, rfl, g, rfl, ?_⟩
  walk_at "rds"
  refine ⟨p, n, b, h, he, s, c, k, rfl, aw, ?_⟩
  cases e2 : chkO s c k with
  | some z => rw [e2] at out; exact out
  | none =>
    rw [e2] at out
    dsimp only at out
    obtain ⟨x, gk, _⟩ := chkO_none e2
    rw [gk] at out
    dsimp only at out
    have del : ∀ H1, Same H H1 → AcAt C_Accounts H1 p n b h s.ac he s.su → (¬ (x.2 ≠ 0 ∨ heldB s.ho k = true)) → ∃ t, t = t ∧ Q .non (upd (upd H1 n (.dK (aowD (rmA s.ac k)))) b (.dK (baD (rmA s.ac k)))) := fun H1 s1 a1 no => by
      rw [if_neg no] at out
      exact ⟨(), rfl, out _ he (.trans (Same.but s1) (.trans (but_upd (by simp)) (but_upd (by simp)))) (a1.del k) aw.hs⟩
    walk_at "rds"
    refine ⟨p, _, dx, _, _, rfl, g, T.cl_Accounts, T.na_Accounts__balances, rfl, ?_⟩
    walk_at "rds"
    refine ⟨b, _, rfl, .inl ⟨_, Sum.inr k, .inl aw.at_.ba, rfl, by rw [ba_val, gk]; rfl⟩, ?_⟩
    walk_at "rds"
    rw [decV']
    by_cases h0 : x.2 = 0
    · refine ifF (by rw [decide_eq_true h0]; rfl) ?_
      walk_at "rds"
      refine ⟨p, dx, _, rfl, g, rfl, ?_⟩
      walk_at "rds"
      refine ⟨p, n, b, h, he, s, k, rfl, aw, fun H1 s1 => ?_⟩
      refine ⟨_, rfl, ?_⟩
      cases hb : heldB s.ho k with
      | true =>
        rw [if_pos (.inr hb)] at out
        refine ifT rfl ?_
        walk_at "rds"
        exact mk_one fun H' d s2 _ hd => out H' d (s1.trans s2) hd
      | false =>
        have a1 := aw.at_.on s1
        obtain ⟨_, _, fin⟩ := del H1 s1 a1 (fun z => z.elim (fun z => z h0) (fun z => by rw [hb] at z; cases z))
        obtain ⟨dx1, g1⟩ := a1.ins
        refine ifF rfl ?_
        walk_at "rds"
        refine ⟨p, _, dx1, _, _, rfl, g1, T.cl_Accounts, T.na_Accounts__owners, rfl, ?_⟩
        walk_at "rds"
        refine ⟨n, _, Sum.inr k, rfl, a1.ow, rfl, by rw [aow_val, gk]; rfl, ?_⟩
        rw [show dropK (aowD s.ac) (Sum.inr k) = aowD (rmA s.ac k) from dropK_rmA inrI _ s.ac k]
        walk_at "rds"
        refine ⟨p, _, dx1, _, _, rfl, (by rw [upd_ne a1.pn.1]; exact g1), T.cl_Accounts, T.na_Accounts__balances, rfl, ?_⟩
        walk_at "rds"
        refine ⟨b, _, Sum.inr k, rfl, (by rw [upd_ne a1.n1.symm]; exact a1.ba), rfl, by rw [ba_val, gk]; rfl, ?_⟩
        rw [show dropK (baD s.ac) (Sum.inr k) = baD (rmA s.ac k) from dropK_rmA inrI _ s.ac k]
        exact fin
    · rw [if_pos (.inl h0)] at out
      refine ifT (by rw [decide_eq_false h0]; rfl) ?_
      refine ifT rfl ?_
      walk_at "rds"
      exact mk_one fun H' d s1 _ hd => out H' d s1 hd
end

section
variable {P : Program} {w : World} {K : PySem.W.Frag} {mg : Str → Option Value} {base : Heap}
theorem Out.bal {B C : Addr} {H H' : Hp} {p n b h : Addr} {Q : VK} {E : XK} {s' : AS} {he : HE} (out : OutA B C H p n b h Q E (.inr s')) (bt : But [p, n, b, h] H H') (a : AcAt C H' p n b h s'.ac he s'.su) (e : hsOf he = s'.ho) : Q .non H' := out H' he bt a e
theorem m_Accounts__issue {C_Accounts : Addr} {C_Refused : Addr} (T : Txt K mg C_Accounts C_Refused) : MetX P w K mg base 4 C_Accounts "issue" (spAcIssue C_Refused C_Accounts) := by
  have i_Refused := i_Refused (P := P) (w := w) (base := base) T
  have m_Accounts___check := m_Accounts___check (P := P) (w := w) (base := base) T
  refine metX T.cl_Accounts T.me_Accounts__issue sc_Accounts__issue (fun vs H Q E h => ?_) (fun f cdv A outer s H vs Q E hr h => ?_)
  · obtain ⟨p, n, b, h, he, s, c, k, a, rfl, _⟩ := h; rfl
  obtain ⟨p, n, b, h, he, s, c, k, a, rfl, aw, out⟩ := h
  obtain ⟨dx, g⟩ := aw.at_.ins
  have la := aw.len
  unfold opIssue at out
  refine ⟨_, (pss_cons (ps_if (pt_cmpR op_ne (pv 1) (pe_gc (by rfl) T.c_MINT) (nomark _)) (pss_one (ps_raise rfl (takes_of rfl rfl rfl rfl) (pmk_ei i_Refused hr (by decide) (by rfl) (pa_cons pe_str pa_nil)))) pss_nil)
      (pss_cons (ps_expr (pe_mtX m_Accounts___check hr (by decide) (fun σ => passAt (takes_of rfl rfl rfl rfl) σ) (pv 0) (pa_cons (pv 2) pa_nil)))
      (pss_cons (ps_if (pt_cmpR op_gt (pe_op op_add (pe_fld (pv 0) rfl) (pv 3)) (pe_gc (by rfl) T.c_SUPPLY_LIMIT) (nomark _)) (pss_one (ps_raise rfl (takes_of rfl rfl rfl rfl) (pmk_ei i_Refused hr (by decide) (by rfl) (pa_cons pe_str pa_nil)))) pss_nil)
      (pss_cons (ps_daug (hu_of hr) (pe_fld (pv 0) rfl) (pv 2) (pv 3) in_add (fun _ _ _ => rfl))
      (pss_one (ps_fldaug (pv 0) (pv 3) in_add)))))), ?_⟩
  walk_at "rds"
  by_cases h1 : c = -1
  case neg =>
    rw [if_pos h1] at out
    refine ifT (by show (!decide (V.int c = V.int (-1))) = true; rw [decV', decide_eq_false h1]; rfl) ?_
    walk_at "rds"
    exact mk_one fun H' d s1 _ hd => out H' d s1 hd
  rw [if_neg (fun n => n h1)] at out
  refine ifF (by show (!decide (V.int c = V.int (-1))) = false; rw [decV', decide_eq_true h1]; rfl) ?_
  walk_at "rds"
  refine ⟨p, dx, _, rfl, g, rfl, ?_⟩
  walk_at "rds"
  refine ⟨p, n, b, h, he, s, k, rfl, aw, ?_⟩
  cases e1 : chk s k with
  | some z => rw [e1] at out; exact out
  | none =>
    rw [e1] at out
    dsimp only at out
    obtain ⟨x, gk⟩ := chk_none e1
    walk_at "rds"
    refine ⟨p, _, dx, _, _, rfl, g, T.cl_Accounts, T.na_Accounts__supply, rfl, ?_⟩
    walk_at "rds"
    by_cases h2 : 1000000000000000 < s.su + a
    · rw [if_pos h2] at out
      refine ifT (decide_eq_true h2) ?_
      walk_at "rds"
      exact mk_one fun H' d s1 _ hd => out H' d s1 hd
    rw [if_neg h2] at out
    refine ifF (decide_eq_false h2) ?_
    walk_at "rds"
    refine ⟨p, _, dx, _, _, rfl, g, T.cl_Accounts, T.na_Accounts__balances, rfl, ?_⟩
    walk_at "rds"
    refine ⟨b, _, rfl, .inl ⟨_, Sum.inr k, .inl aw.at_.ba, rfl, by rw [ba_val, gk]; rfl⟩, ?_⟩
    walk_at "rds"
    refine ⟨_, DPut.k (k := Sum.inr k) aw.at_.ba (by unfold baD; rw [kvs_len]; exact sz1000' (by omega)), ?_⟩
    rw [ba_put k x.1 (x.2 + a)]
    have a1 := aw.at_.bal aw.ok gk (x.2 + a)
    have bt1 : But [p, n, b, h] H (upd H b (.dK (baD (pA s.ac k (x.1, x.2 + a))))) := but_upd (by simp)
    generalize upd H b (.dK (baD (pA s.ac k (x.1, x.2 + a)))) = H1 at a1 bt1
    obtain ⟨dx1, g1⟩ := a1.ins
    walk_at "rds"
    refine ⟨p, _, dx1, _, _, rfl, g1, T.cl_Accounts, T.na_Accounts__supply, rfl, ?_⟩
    walk_at "rds"
    refine ⟨dx1, _, g1, (by show 4 < 1000; decide), ?_⟩
    refine Out.bal out (bt1.trans (but_upd (by simp))) ?_ aw.hs
    show AcAt _ _ p n b h (addB s.ac k a) he (s.su + a)
    rw [addB_some gk]
    exact a1.sup (s.su + a) g1
theorem m_Accounts__burn {C_Accounts : Addr} {C_Refused : Addr} (T : Txt K mg C_Accounts C_Refused) : MetX P w K mg base 5 C_Accounts "burn" (spAcBurn C_Refused C_Accounts) := by
  have m_Accounts___check_owner := m_Accounts___check_owner (P := P) (w := w) (base := base) T
  have m_Accounts___check_funds := m_Accounts___check_funds (P := P) (w := w) (base := base) T
  refine metX T.cl_Accounts T.me_Accounts__burn sc_Accounts__burn (fun vs H Q E h => ?_) (fun f cdv A outer s H vs Q E hr h => ?_)
  · obtain ⟨p, n, b, h, he, s, c, k, a, rfl, _⟩ := h; rfl
  obtain ⟨p, n, b, h, he, s, c, k, a, rfl, aw, out⟩ := h
  obtain ⟨dx, g⟩ := aw.at_.ins
  have la := aw.len
  unfold opBurn at out
  refine ⟨_, (pss_cons (ps_expr (pe_mtX m_Accounts___check_owner hr (by decide) (fun σ => passAt (takes_of rfl rfl rfl rfl) σ) (pv 0) (pa_cons (pv 1) (pa_cons (pv 2) pa_nil))))
      (pss_cons (ps_expr (pe_mtX m_Accounts___check_funds hr (by decide) (fun σ => passAt (takes_of rfl rfl rfl rfl) σ) (pv 0) (pa_cons (pv 2) (pa_cons (pv 3) pa_nil))))
      (pss_cons (ps_daug (hu_of hr) (pe_fld (pv 0) rfl) (pv 2) (pv 3) in_sub (fun _ _ _ => rfl))
      (pss_one (ps_fldaug (pv 0) (pv 3) in_sub))))), ?_⟩
  walk_at "rds"
  refine ⟨p, dx, _, rfl, g, rfl, ?_⟩
  walk_at "rds"
  refine ⟨p, n, b, h, he, s, c, k, rfl, aw, ?_⟩
  cases e2 : chkO s c k with
  | some z => rw [e2] at out; exact out
  | none =>
    rw [e2] at out
    dsimp only at out
    obtain ⟨x, gk, _⟩ := chkO_none e2
    walk_at "rds"
    refine ⟨p, dx, _, rfl, g, rfl, ?_⟩
    walk_at "rds"
    refine ⟨p, n, b, h, he, s, k, a, rfl, aw, (by rw [gk]; intro z; cases z), ?_⟩
    cases e3 : chkF s k a with
    | some z => rw [e3] at out; exact out
    | none =>
      rw [e3] at out
      dsimp only at out
      walk_at "rds"
      refine ⟨p, _, dx, _, _, rfl, g, T.cl_Accounts, T.na_Accounts__balances, rfl, ?_⟩
      walk_at "rds"
      refine ⟨b, _, rfl, .inl ⟨_, Sum.inr k, .inl aw.at_.ba, rfl, by rw [ba_val, gk]; rfl⟩, ?_⟩
      walk_at "rds"
      refine ⟨_, DPut.k (k := Sum.inr k) aw.at_.ba (by unfold baD; rw [kvs_len]; exact sz1000' (by omega)), ?_⟩
      rw [ba_put k x.1 (x.2 - a)]
      have a1 := aw.at_.bal aw.ok gk (x.2 - a)
      have bt1 : But [p, n, b, h] H (upd H b (.dK (baD (pA s.ac k (x.1, x.2 - a))))) := but_upd (by simp)
      generalize upd H b (.dK (baD (pA s.ac k (x.1, x.2 - a)))) = H1 at a1 bt1
      obtain ⟨dx1, g1⟩ := a1.ins
      walk_at "rds"
      refine ⟨p, _, dx1, _, _, rfl, g1, T.cl_Accounts, T.na_Accounts__supply, rfl, ?_⟩
      walk_at "rds"
      refine ⟨dx1, _, g1, (by show 4 < 1000; decide), ?_⟩
      refine Out.bal out (bt1.trans (but_upd (by simp))) ?_ aw.hs
      show AcAt _ _ p n b h (addB s.ac k (-a)) he (s.su - a)
      rw [addB_some gk, show x.2 + -a = x.2 - a by omega]
      exact a1.sup (s.su - a) g1
theorem m_Accounts__pay {C_Accounts : Addr} {C_Refused : Addr} (T : Txt K mg C_Accounts C_Refused) : MetX P w K mg base 6 C_Accounts "pay" (spAcPay C_Refused C_Accounts) := by
  have m_Accounts___check_payment := m_Accounts___check_payment (P := P) (w := w) (base := base) T
  refine metX T.cl_Accounts T.me_Accounts__pay sc_Accounts__pay (fun vs H Q E h => ?_) (fun f cdv A outer s H vs Q E hr h => ?_)
  · obtain ⟨p, n, b, h, he, s, c, x, y, a, rfl, _⟩ := h; rfl
  obtain ⟨p, n, b, h, he, s, c, x, y, a, rfl, aw, out⟩ := h
  obtain ⟨dx, g⟩ := aw.at_.ins
  have la := aw.len
  unfold opPay at out
  refine ⟨_, (pss_cons (ps_expr (pe_mtX m_Accounts___check_payment hr (by decide) (fun σ => passAt (takes_of rfl rfl rfl rfl) σ) (pv 0) (pa_cons (pv 1) (pa_cons (pv 2) (pa_cons (pv 3) (pa_cons (pv 4) pa_nil))))))
      (pss_cons (ps_daug (hu_of hr) (pe_fld (pv 0) rfl) (pv 2) (pv 4) in_sub (fun _ _ _ => rfl))
      (pss_one (ps_daug (hu_of hr) (pe_fld (pv 0) rfl) (pv 3) (pv 4) in_add (fun _ _ _ => rfl))))), ?_⟩
  walk_at "rds"
  refine ⟨p, dx, _, rfl, g, rfl, ?_⟩
  walk_at "rds"
  refine ⟨p, n, b, h, he, s, c, x, y, a, rfl, aw, ?_⟩
  cases e2 : chkP s c x y a with
  | some z => rw [e2] at out; exact out
  | none =>
    rw [e2] at out
    dsimp only at out
    obtain ⟨⟨u, gu⟩, v, gv⟩ := chkP_none e2
    walk_at "rds"
    refine ⟨p, _, dx, _, _, rfl, g, T.cl_Accounts, T.na_Accounts__balances, rfl, ?_⟩
    walk_at "rds"
    refine ⟨b, _, rfl, .inl ⟨_, Sum.inr x, .inl aw.at_.ba, rfl, by rw [ba_val, gu]; rfl⟩, ?_⟩
    walk_at "rds"
    refine ⟨_, DPut.k (k := Sum.inr x) aw.at_.ba (by unfold baD; rw [kvs_len]; exact sz1000' (by omega)), ?_⟩
    rw [ba_put x u.1 (u.2 - a)]
    have a1 := aw.at_.bal aw.ok gu (u.2 - a)
    have bt1 : But [p, n, b, h] H (upd H b (.dK (baD (pA s.ac x (u.1, u.2 - a))))) := but_upd (by simp)
    have ea : addB s.ac x (-a) = pA s.ac x (u.1, u.2 - a) := by rw [addB_some gu, show u.2 + -a = u.2 - a by omega]
    generalize upd H b (.dK (baD (pA s.ac x (u.1, u.2 - a)))) = H1 at a1 bt1
    rw [← ea] at a1
    have ok1 := addB_ok x (-a) aw.ok
    have l1 : (addB s.ac x (-a)).length = s.ac.length := addB_len (by rw [gu]; intro z; cases z)
    obtain ⟨v', gv'⟩ := some_of (addB_get (n := x) (m := y) (d := -a) aw.ok (by rw [gv]; intro z; cases z))
    have eo : addB (addB s.ac x (-a)) y a = pA (addB s.ac x (-a)) y (v'.1, v'.2 + a) := addB_some gv'
    generalize addB s.ac x (-a) = ac1 at a1 ok1 l1 gv' eo out
    obtain ⟨dx1, g1⟩ := a1.ins
    walk_at "rds"
    refine ⟨p, _, dx1, _, _, rfl, g1, T.cl_Accounts, T.na_Accounts__balances, rfl, ?_⟩
    walk_at "rds"
    refine ⟨b, _, rfl, .inl ⟨_, Sum.inr y, .inl a1.ba, rfl, by rw [ba_val, gv']; rfl⟩, ?_⟩
    walk_at "rds"
    refine ⟨_, DPut.k (k := Sum.inr y) a1.ba (by unfold baD; rw [kvs_len]; exact sz1000' (by omega)), ?_⟩
    rw [ba_put y v'.1 (v'.2 + a)]
    refine Out.bal out (bt1.trans (but_upd (by simp))) ?_ aw.hs
    show AcAt _ _ p n b h (addB ac1 y a) he s.su
    rw [eo]
    exact a1.bal ok1 gv' (v'.2 + a)
theorem m_Accounts__hold {C_Accounts : Addr} {C_Refused : Addr} (T : Txt K mg C_Accounts C_Refused) : MetX P w K mg base 6 C_Accounts "hold" (spAcHold C_Refused C_Accounts) := by
  have i_Refused := i_Refused (P := P) (w := w) (base := base) T
  have m_Accounts___check_payment := m_Accounts___check_payment (P := P) (w := w) (base := base) T
  refine metX T.cl_Accounts T.me_Accounts__hold sc_Accounts__hold (fun vs H Q E h => ?_) (fun f cdv A outer s H vs Q E hr h => ?_)
  · obtain ⟨p, n, b, h, he, s, c, x, y, a, k, rfl, _⟩ := h; rfl
  obtain ⟨p, n, b, h, he, s, c, x, y, a, k, rfl, aw, out⟩ := h
  obtain ⟨dx, g⟩ := aw.at_.ins
  have la := aw.len
  have lh := aw.hlen
  have le := hsOf_len he
  rw [aw.hs] at le
  unfold opHold at out
  refine ⟨_, (pss_cons (ps_expr (pe_mtX m_Accounts___check_payment hr (by decide) (fun σ => passAt (takes_of rfl rfl rfl rfl) σ) (pv 0) (pa_cons (pv 1) (pa_cons (pv 2) (pa_cons (pv 3) (pa_cons (pv 4) pa_nil))))))
      (pss_cons (ps_if (pt_cmp (pc_din (by exact hu_of hr) (pv 5) (pe_fld (pv 0) rfl))) (pss_one (ps_raise rfl (takes_of rfl rfl rfl rfl) (pmk_ei i_Refused hr (by decide) (by rfl) (pa_cons pe_str pa_nil)))) pss_nil)
      (pss_cons (ps_if (pt_cmpR op_ge (pe_callB call_lenD (by rfl) T.z_len (by decide +kernel) (pa_cons (pe_fld (pv 0) rfl) pa_nil)) (pe_gc (by rfl) T.c_HOLD_LIMIT) (nomark _)) (pss_one (ps_raise rfl (takes_of rfl rfl rfl rfl) (pmk_ei i_Refused hr (by decide) (by rfl) (pa_cons pe_str pa_nil)))) pss_nil)
      (pss_cons (ps_daug (hu_of hr) (pe_fld (pv 0) rfl) (pv 2) (pv 4) in_sub (fun _ _ _ => rfl))
      (pss_one (ps_dput (hu_of hr) (pe_fld (pv 0) rfl) (pv 5) (pe_tup (pa_cons (pv 2) (pa_cons (pv 3) (pa_cons (pv 4) pa_nil)))) rfl)))))), ?_⟩
  walk_at "rds"
  refine ⟨p, dx, _, rfl, g, rfl, ?_⟩
  walk_at "rds"
  refine ⟨p, n, b, h, he, s, c, x, y, a, rfl, aw, ?_⟩
  cases e2 : chkP s c x y a with
  | some z => rw [e2] at out; exact out
  | none =>
    rw [e2] at out
    dsimp only at out
    obtain ⟨⟨u, gu⟩, v, gv⟩ := chkP_none e2
    have gh := gA_hsOf he k
    rw [aw.hs] at gh
    walk_at "rds"
    refine ⟨p, _, dx, _, _, rfl, g, T.cl_Accounts, T.na_Accounts__holds, rfl, ?_⟩
    refine ⟨h, _, rfl, DGet.k (k := Sum.inr k) aw.at_.ho, ?_⟩
    rw [ho_val]
    cases gk : gA he k with
    | some z =>
      rw [gk] at gh
      rw [show gA s.ho k = some z.2 from gh] at out
      walk_at "rds"
      exact mk_one fun H' d s1 _ hd => out H' d s1 hd
    | none =>
      rw [gk] at gh
      rw [show gA s.ho k = none from gh] at out
      have out : OutA C_Refused C_Accounts H p n b h Q E (if 100 ≤ s.ho.length then .inl "full" else .inr { s with ac := addB s.ac x (-a), ho := pA s.ho k (x, y, a) }) := out
      walk_at "rds"
      refine ⟨p, _, dx, _, _, rfl, g, T.cl_Accounts, T.na_Accounts__holds, rfl, ?_⟩
      walk_at "rds"
      refine ⟨h, _, rfl, aw.at_.ho, ?_⟩
      rw [show (hoD he).length = he.length from kvs_len _ _ _]
      walk_at "rds"
      by_cases hl : 100 ≤ s.ho.length
      · rw [if_pos hl] at out
        refine ifT (decide_eq_true (by omega)) ?_
        walk_at "rds"
        exact mk_one fun H' d s1 _ hd => out H' d s1 hd
      rw [if_neg hl] at out
      refine ifF (decide_eq_false (by omega)) ?_
      walk_at "rds"
      refine ⟨p, _, dx, _, _, rfl, g, T.cl_Accounts, T.na_Accounts__balances, rfl, ?_⟩
      walk_at "rds"
      refine ⟨b, _, rfl, .inl ⟨_, Sum.inr x, .inl aw.at_.ba, rfl, by rw [ba_val, gu]; rfl⟩, ?_⟩
      walk_at "rds"
      refine ⟨_, DPut.k (k := Sum.inr x) aw.at_.ba (by unfold baD; rw [kvs_len]; exact sz1000' (by omega)), ?_⟩
      rw [ba_put x u.1 (u.2 - a)]
      have a1 := aw.at_.bal aw.ok gu (u.2 - a)
      have bt1 : But [p, n, b, h] H (upd H b (.dK (baD (pA s.ac x (u.1, u.2 - a))))) := but_upd (by simp)
      have ea : addB s.ac x (-a) = pA s.ac x (u.1, u.2 - a) := by rw [addB_some gu, show u.2 + -a = u.2 - a by omega]
      generalize upd H b (.dK (baD (pA s.ac x (u.1, u.2 - a)))) = H1 at a1 bt1
      rw [← ea] at a1
      walk_at "rds"
      intro t ht
      have st := same_upd (o := .tup [.str x, .str y, .int a]) ht
      have et : upd H1 t (.tup [.str x, .str y, .int a]) t = some (.tup (holdV (x, y, a))) := upd_same
      have a2 := a1.on st
      have bt2 := bt1.trans (Same.but st)
      generalize upd H1 t (.tup [V.str x, .str y, .int a]) = H2 at et a2 bt2
      obtain ⟨dx2, g2⟩ := a2.ins
      walk_at "rds"
      refine ⟨p, _, dx2, _, _, rfl, g2, T.cl_Accounts, T.na_Accounts__holds, rfl, ?_⟩
      walk_at "rds"
      refine ⟨h, _, rfl, DPut.k (k := Sum.inr k) a2.ho (by unfold hoD; rw [kvs_len]; exact sz1000' (by omega)), ?_⟩
      rw [ho_put k t (x, y, a)]
      refine Out.bal out (bt2.trans (but_upd (by simp))) (a2.hold (k := k) et) ?_
      rw [pA_hsOf, aw.hs]
end

def rowA (ac : AB) (k : Str) : PyData := match gA ac k with
  | some x => .tuple [.str k, .int x.1, .int x.2]
  | none => .none
def rowH (ho : HS) (k : Str) : PyData := match gA ho k with
  | some x => .tuple [.str k, .str x.1, .str x.2.1, .int x.2.2]
  | none => .none
def Tx (z : Str) : Prop := z.length ≤ 1000 ∧ PyData.strOk z = true
def sortK {α : Type} (ks : List (Str × α)) : List Str := sortS (ks.map (·.1))
theorem sortK_mem {α : Type} {ks : List (Str × α)} {k : Str} : k ∈ sortK ks ↔ k ∈ ks.map (·.1) := (sortS_perm _).mem_iff
theorem sortK_len {α : Type} (ks : List (Str × α)) : (sortK ks).length = ks.length := by unfold sortK; rw [sortS_len, List.length_map]
theorem sortK_get {α : Type} {ks : List (Str × α)} (hok : kOk ks) {k : Str} (m : k ∈ sortK ks) : ∃ x, gA ks k = some x ∧ (k, x) ∈ ks := by
  obtain ⟨y, my, rfl⟩ := List.mem_map.mp (sortK_mem.mp m)
  exact ⟨y.2, gA_mem hok my, my⟩
theorem rowA_noL {ac : AB} (k : Str) : noL (rowA ac k) = true := by
  unfold rowA; cases gA ac k <;> rfl
theorem rowH_noL {ho : HS} (k : Str) : noL (rowH ho k) = true := by
  unfold rowH; cases gA ho k <;> rfl
def ShA (s : AS) : Prop := (∀ e ∈ s.ac, Tx e.1) ∧ ∀ e ∈ s.ho, Tx e.1 ∧ Tx e.2.1 ∧ Tx e.2.2.1
def spAcRows (K : PySem.W.Frag) (C : Addr) : Sp := fun vs H Q _ => ∃ (p n b h : Addr) (he : HE) (s : AS), vs = [.ref p] ∧ AW C H p n b h he s ∧ ShA s ∧
  ∀ (xs : List V) H' r, Same H H' → H r = none → H' r = some (.lst xs) → DtAll K H' none xs ((sortK s.ac).map (rowA s.ac)) → Q (.ref r) H'
def spAcHelds (K : PySem.W.Frag) (C : Addr) : Sp := fun vs H Q _ => ∃ (p n b h : Addr) (he : HE) (s : AS), vs = [.ref p] ∧ AW C H p n b h he s ∧ kOk s.ho ∧ ShA s ∧
  ∀ (xs : List V) H' r, Same H H' → H r = none → H' r = some (.lst xs) → DtAll K H' none xs ((sortK s.ho).map (rowH s.ho)) → Q (.ref r) H'
def spAcSup (C : Addr) : Sp := fun vs H Q _ => ∃ (p n b h : Addr) (he : HE) (s : AS), vs = [.ref p] ∧ AW C H p n b h he s ∧ Q (.int s.su) H
theorem AW.on {C : Addr} {H H' : Hp} {p n b h : Addr} {he : HE} {s : AS} (a : AW C H p n b h he s) (sm : Same H H') : AW C H' p n b h he s := { a with at_ := a.at_.on sm }
section
variable {P : Program} {w : World} {K : PySem.W.Frag} {mg : Str → Option Value} {base : Heap}
theorem m_Accounts__settle {C_Accounts : Addr} {C_Refused : Addr} (T : Txt K mg C_Accounts C_Refused) : MetX P w K mg base 5 C_Accounts "settle" (spAcSettle C_Refused C_Accounts) := by
  have m_Accounts___hold_of := m_Accounts___hold_of (P := P) (w := w) (base := base) T
  have m_Accounts___check_owner := m_Accounts___check_owner (P := P) (w := w) (base := base) T
  refine metX T.cl_Accounts T.me_Accounts__settle sc_Accounts__settle (fun vs H Q E h => ?_) (fun f cdv A outer s H vs Q E hr h => ?_)
  · obtain ⟨p, n, b, h, he, s, c, k, rfl, _⟩ := h; rfl
  obtain ⟨p, n, b, h, he, s, c, k, rfl, aw, out⟩ := h
  obtain ⟨dx, g⟩ := aw.at_.ins
  have la := aw.len
  have gh := gA_hsOf he k
  rw [aw.hs] at gh
  unfold opSettle at out
  refine ⟨_, (pss_cons (ps_asg (pe_mtX m_Accounts___hold_of hr (by decide) (fun σ => passAt (takes_of rfl rfl rfl rfl) σ) (pv 0) (pa_cons (pv 2) pa_nil)) (pg_tup (by rfl) (pgs_cons (pg_name (i := 3) sc_Accounts__settle.nd rfl (Or.inl rfl)) (pgs_cons (pg_name (i := 4) sc_Accounts__settle.nd rfl (Or.inl rfl)) (pgs_cons (pg_name (i := 5) sc_Accounts__settle.nd rfl (Or.inl rfl)) pgs_nil)))))
      (pss_cons (ps_expr (pe_mtX m_Accounts___check_owner hr (by decide) (fun σ => passAt (takes_of rfl rfl rfl rfl) σ) (pv 0) (pa_cons (pv 1) (pa_cons (pv 3) pa_nil))))
      (pss_cons (ps_daug (hu_of hr) (pe_fld (pv 0) rfl) (pv 4) (pv 5) in_add (fun _ _ _ => rfl))
      (pss_one (ps_ddel (pe_fld (pv 0) rfl) (pv 2)))))), ?_⟩
  walk_at "rds"
  refine ⟨p, dx, _, rfl, g, rfl, ?_⟩
  walk_at "rds"
  refine ⟨p, n, b, h, he, s, k, rfl, aw, fun gk => ?_, fun x gk => ?_⟩
  · rw [gk] at gh
    rw [show gA s.ho k = none from gh] at out
    exact out
  rw [gk] at gh
  have gh : gA s.ho k = some x.2 := gh
  have mh : (k, x.2) ∈ s.ho := gA_some gh
  rw [gh] at out
  have out : OutA C_Refused C_Accounts H p n b h Q E (match chkO s c x.2.1 with
    | some z => .inl z
    | none => .inr { s with ac := addB s.ac x.2.2.1 x.2.2.2, ho := rmA s.ho k }) := out
  have ht := aw.at_.tp _ (gA_some gk)
  obtain ⟨y, gy⟩ := some_of (aw.src _ mh).2
  have gy : gA s.ac x.2.2.1 = some y := gy
  refine ⟨x.1, _, rfl, SqT.of ht, rfl, _, _, rfl, _, _, rfl, _, _, rfl, rfl, ?_⟩
  walk_at "rds"
  refine ⟨p, dx, _, rfl, g, rfl, ?_⟩
  walk_at "rds"
  refine ⟨p, n, b, h, he, s, c, x.2.1, rfl, aw, ?_⟩
  cases e2 : chkO s c x.2.1 with
  | some z => rw [e2] at out; exact out
  | none =>
    rw [e2] at out
    dsimp only at out
    walk_at "rds"
    refine ⟨p, _, dx, _, _, rfl, g, T.cl_Accounts, T.na_Accounts__balances, rfl, ?_⟩
    walk_at "rds"
    refine ⟨b, _, rfl, .inl ⟨_, Sum.inr x.2.2.1, .inl aw.at_.ba, rfl, by rw [ba_val, gy]; rfl⟩, ?_⟩
    walk_at "rds"
    refine ⟨_, DPut.k (k := Sum.inr x.2.2.1) aw.at_.ba (by unfold baD; rw [kvs_len]; exact sz1000' (by omega)), ?_⟩
    rw [ba_put x.2.2.1 y.1 (y.2 + x.2.2.2)]
    have a1 := aw.at_.bal aw.ok gy (y.2 + x.2.2.2)
    have bt1 : But [p, n, b, h] H (upd H b (.dK (baD (pA s.ac x.2.2.1 (y.1, y.2 + x.2.2.2))))) := but_upd (by simp)
    generalize upd H b (.dK (baD (pA s.ac x.2.2.1 (y.1, y.2 + x.2.2.2)))) = H1 at a1 bt1
    obtain ⟨dx1, g1⟩ := a1.ins
    walk_at "rds"
    refine ⟨p, _, dx1, _, _, rfl, g1, T.cl_Accounts, T.na_Accounts__holds, rfl, ?_⟩
    walk_at "rds"
    refine ⟨h, _, Sum.inr k, rfl, a1.ho, rfl, by rw [ho_val, gk]; rfl, ?_⟩
    rw [show dropK (hoD he) (Sum.inr k) = hoD (rmA he k) from dropK_rmA inrI _ he k]
    refine Out.bal out (bt1.trans (but_upd (by simp))) ?_ (by rw [rmA_hsOf, aw.hs])
    show AcAt _ _ p n b h (addB s.ac x.2.2.1 x.2.2.2) (rmA he k) s.su
    rw [addB_some gy]
    exact a1.free k
theorem m_Accounts__release {C_Accounts : Addr} {C_Refused : Addr} (T : Txt K mg C_Accounts C_Refused) : MetX P w K mg base 5 C_Accounts "release" (spAcRelease C_Refused C_Accounts) := by
  have m_Accounts___hold_of := m_Accounts___hold_of (P := P) (w := w) (base := base) T
  have m_Accounts___check_owner := m_Accounts___check_owner (P := P) (w := w) (base := base) T
  refine metX T.cl_Accounts T.me_Accounts__release sc_Accounts__release (fun vs H Q E h => ?_) (fun f cdv A outer s H vs Q E hr h => ?_)
  · obtain ⟨p, n, b, h, he, s, c, k, rfl, _⟩ := h; rfl
  obtain ⟨p, n, b, h, he, s, c, k, rfl, aw, out⟩ := h
  obtain ⟨dx, g⟩ := aw.at_.ins
  have la := aw.len
  have gh := gA_hsOf he k
  rw [aw.hs] at gh
  unfold opRelease at out
  refine ⟨_, (pss_cons (ps_asg (pe_mtX m_Accounts___hold_of hr (by decide) (fun σ => passAt (takes_of rfl rfl rfl rfl) σ) (pv 0) (pa_cons (pv 2) pa_nil)) (pg_tup (by rfl) (pgs_cons (pg_name (i := 3) sc_Accounts__release.nd rfl (Or.inl rfl)) (pgs_cons (pg_name (i := 4) sc_Accounts__release.nd rfl (Or.inl rfl)) (pgs_cons (pg_name (i := 5) sc_Accounts__release.nd rfl (Or.inl rfl)) pgs_nil)))))
      (pss_cons (ps_expr (pe_mtX m_Accounts___check_owner hr (by decide) (fun σ => passAt (takes_of rfl rfl rfl rfl) σ) (pv 0) (pa_cons (pv 1) (pa_cons (pv 4) pa_nil))))
      (pss_cons (ps_daug (hu_of hr) (pe_fld (pv 0) rfl) (pv 3) (pv 5) in_add (fun _ _ _ => rfl))
      (pss_one (ps_ddel (pe_fld (pv 0) rfl) (pv 2)))))), ?_⟩
  walk_at "rds"
  refine ⟨p, dx, _, rfl, g, rfl, ?_⟩
  walk_at "rds"
  refine ⟨p, n, b, h, he, s, k, rfl, aw, fun gk => ?_, fun x gk => ?_⟩
  · rw [gk] at gh
    rw [show gA s.ho k = none from gh] at out
    exact out
  rw [gk] at gh
  have gh : gA s.ho k = some x.2 := gh
  have mh : (k, x.2) ∈ s.ho := gA_some gh
  rw [gh] at out
  have out : OutA C_Refused C_Accounts H p n b h Q E (match chkO s c x.2.2.1 with
    | some z => .inl z
    | none => .inr { s with ac := addB s.ac x.2.1 x.2.2.2, ho := rmA s.ho k }) := out
  have ht := aw.at_.tp _ (gA_some gk)
  obtain ⟨y, gy⟩ := some_of (aw.src _ mh).1
  have gy : gA s.ac x.2.1 = some y := gy
  refine ⟨x.1, _, rfl, SqT.of ht, rfl, _, _, rfl, _, _, rfl, _, _, rfl, rfl, ?_⟩
  walk_at "rds"
  refine ⟨p, dx, _, rfl, g, rfl, ?_⟩
  walk_at "rds"
  refine ⟨p, n, b, h, he, s, c, x.2.2.1, rfl, aw, ?_⟩
  cases e2 : chkO s c x.2.2.1 with
  | some z => rw [e2] at out; exact out
  | none =>
    rw [e2] at out
    dsimp only at out
    walk_at "rds"
    refine ⟨p, _, dx, _, _, rfl, g, T.cl_Accounts, T.na_Accounts__balances, rfl, ?_⟩
    walk_at "rds"
    refine ⟨b, _, rfl, .inl ⟨_, Sum.inr x.2.1, .inl aw.at_.ba, rfl, by rw [ba_val, gy]; rfl⟩, ?_⟩
    walk_at "rds"
    refine ⟨_, DPut.k (k := Sum.inr x.2.1) aw.at_.ba (by unfold baD; rw [kvs_len]; exact sz1000' (by omega)), ?_⟩
    rw [ba_put x.2.1 y.1 (y.2 + x.2.2.2)]
    have a1 := aw.at_.bal aw.ok gy (y.2 + x.2.2.2)
    have bt1 : But [p, n, b, h] H (upd H b (.dK (baD (pA s.ac x.2.1 (y.1, y.2 + x.2.2.2))))) := but_upd (by simp)
    generalize upd H b (.dK (baD (pA s.ac x.2.1 (y.1, y.2 + x.2.2.2)))) = H1 at a1 bt1
    obtain ⟨dx1, g1⟩ := a1.ins
    walk_at "rds"
    refine ⟨p, _, dx1, _, _, rfl, g1, T.cl_Accounts, T.na_Accounts__holds, rfl, ?_⟩
    walk_at "rds"
    refine ⟨h, _, Sum.inr k, rfl, a1.ho, rfl, by rw [ho_val, gk]; rfl, ?_⟩
    rw [show dropK (hoD he) (Sum.inr k) = hoD (rmA he k) from dropK_rmA inrI _ he k]
    refine Out.bal out (bt1.trans (but_upd (by simp))) ?_ (by rw [rmA_hsOf, aw.hs])
    show AcAt _ _ p n b h (addB s.ac x.2.1 x.2.2.2) (rmA he k) s.su
    rw [addB_some gy]
    exact a1.free k
theorem m_Accounts__supply {C_Accounts : Addr} {C_Refused : Addr} (T : Txt K mg C_Accounts C_Refused) : Met P w K mg base 1 C_Accounts "supply" (spAcSup C_Accounts) [] := by
  refine met T.cl_Accounts T.me_Accounts__supply sc_Accounts__supply (fun vs H Q E h => ?_) (fun f cdv A outer s H vs Q E hr h => ?_)
  · obtain ⟨p, n, b, h, he, s, rfl, _⟩ := h; rfl
  obtain ⟨p, n, b, h, he, s, rfl, aw, q⟩ := h
  obtain ⟨dx, g⟩ := aw.at_.ins
  refine ⟨_, (pss_one (ps_ret (pe_fld (pv 0) rfl))), ?_⟩
  walk_at "rds"
  refine ⟨p, _, dx, _, _, rfl, g, T.cl_Accounts, T.na_Accounts__supply, rfl, ?_⟩
  exact q
theorem m_Accounts__rows {C_Accounts : Addr} {C_Refused : Addr} (T : Txt K mg C_Accounts C_Refused) : Met P w K mg base 1 C_Accounts "rows" (spAcRows K C_Accounts) [] := by
  refine met T.cl_Accounts T.me_Accounts__rows sc_Accounts__rows (fun vs H Q E h => ?_) (fun f cdv A outer s H vs Q E hr h => ?_)
  · obtain ⟨p, n, b, h, he, s, rfl, _⟩ := h; rfl
  obtain ⟨p, n, b, h, he, s, rfl, aw, sh, q⟩ := h
  obtain ⟨dx, g⟩ := aw.at_.ins
  have la := aw.len
  have hok := aw.ok
  refine ⟨_, (pss_one (ps_ret (pe_lc (own := [("name", 1)]) (g := gName 1) (by rfl) sc_Accounts__rows.nd (pi_list (pe_callB (call_sortedDS rfl (units65 hr)) (by rfl) T.z_sorted (by decide +kernel) (pa_cons (pe_fld (pv 0) rfl) pa_nil))) (blkOk_by (own := [("name", 1)]) (N := ["self", "name"]) (sc := defScope s_Accounts__rows) (by decide +kernel)) (fun _ _ _ _ _ => pg_name (i := 1) sc_Accounts__rows.nd rfl (Or.inl rfl)) (fun _ _ _ _ _ => pts_nil) (fun _ _ _ _ _ => (pe_tup (pa_cons (pv 1) (pa_cons (pe_dget (by exact hu_of hr) (kfld (K := K) (pv 0)) (pv 1) (fun _ _ => rfl)) (pa_cons (pe_dget (by exact hu_of hr) (kfld (K := K) (pv 0)) (pv 1) (fun _ _ => rfl)) pa_nil)))))))), ?_⟩
  walk_at "rds"
  refine ⟨p, _, dx, _, _, rfl, g, T.cl_Accounts, T.na_Accounts__owners, rfl, ?_⟩
  walk_at "rds"
  refine ⟨n, _, s.ac.map (fun k => k.1), rfl, .inl aw.at_.ow, (by exact kvs_keys), by rw [List.length_map]; omega, fun l hl => ?_⟩
  walk_at "rds"
  have s1 : Same H (upd H l (.lst ((sortK s.ac).map V.str))) := same_upd hl
  have hl1 : upd H l (.lst ((sortK s.ac).map V.str)) l = some (.lst ((sortK s.ac).map V.str)) := upd_same
  have e1 : upd H l (.lst ((sortS (s.ac.map fun k => k.1)).map V.str)) = upd H l (.lst ((sortK s.ac).map V.str)) := rfl
  rw [e1]
  generalize upd H l (.lst ((sortK s.ac).map V.str)) = H1 at s1 hl1
  have lK : (sortK s.ac).length ≤ 1000 := by rw [sortK_len]; exact la
  refine ⟨⟨_, sq hl1⟩, fun D hD => ?_⟩
  refine lc_it (walk_list (K := K) (a := l) (xs := (sortK s.ac).map V.str)) (Pv := fun i H' => ∃ xs, Same H1 H' ∧ H' D = some (.lst xs) ∧ DtAll K H' none xs (((sortK s.ac).take i).map (rowA s.ac))) ⟨[], same_upd hD, upd_same, .nil⟩ (fun _ _ _ h => by obtain ⟨_, h, _⟩ := h; exact sq (h _ _ hl1)) (fun i x H6 H7 hi hp2 hy => ?_) (fun H6 hp2 => ?_)
  · obtain ⟨xs, s6, hD6, hx6⟩ := hp2
    obtain ⟨rfl, gx⟩ := hy
    rw [List.length_map] at hi
    rw [List.getElem?_map, List.getElem?_eq_getElem hi] at gx
    obtain rfl : V.str (sortK s.ac)[i] = x := Option.some.inj gx
    obtain ⟨x, gk, mk⟩ := sortK_get hok (List.getElem_mem hi)
    have ht : (sortK s.ac).take (i + 1) = (sortK s.ac).take i ++ [(sortK s.ac)[i]] := by rw [List.take_add_one, List.getElem?_eq_getElem hi]; rfl
    have a6 := aw.at_.on (s1.trans s6)
    obtain ⟨dx6, g6⟩ := a6.ins
    rw [ht, List.map_append]
    generalize (sortK s.ac)[i] = c at gk mk
    have e3 : rowA s.ac c = .tuple [.str c, .int x.1, .int x.2] := by unfold rowA; rw [gk]
    have hc := sh.1 _ mk
    refine ⟨rfl, tyes ?_⟩
    walk_at "rds"
    refine ⟨p, _, dx6, _, _, rfl, g6, T.cl_Accounts, T.na_Accounts__owners, rfl, ?_⟩
    walk_at "rds"
    refine ⟨n, _, rfl, .inl ⟨_, Sum.inr c, .inl a6.ow, rfl, by rw [aow_val, gk]; rfl⟩, ?_⟩
    walk_at "rds"
    refine ⟨p, _, dx6, _, _, rfl, g6, T.cl_Accounts, T.na_Accounts__balances, rfl, ?_⟩
    walk_at "rds"
    refine ⟨b, _, rfl, .inl ⟨_, Sum.inr c, .inl a6.ba, rfl, by rw [ba_val, gk]; rfl⟩, ?_⟩
    walk_at "rds"
    intro t htn
    have hD7 := (same_upd (o := .tup [.str c, .int x.1, .int x.2]) htn) _ _ hD6
    have hxl : xs.length ≤ i := by rw [hx6.length, List.length_map, List.length_take]; omega
    refine ⟨xs, hD7, sz1000' (by omega), xs ++ [.ref t], same_mut (s6.trans (same_upd htn)) hD, upd_same, ?_⟩
    have hdt : Dt K (upd H7 t (.tup [.str c, .int x.1, .int x.2])) none (.ref t) (rowA s.ac c) := by
      rw [e3]
      exact .tup (.inl upd_same) (.cons (.str _ (Nat.le_trans hc.1 (by decide))) (.cons (.int _) (.cons (.int _) .nil)))
    refine DtAll.keep (tp_put hD7) _ _ (noLs_all fun d hd => ?_) ((hx6.on (same_upd htn)).snoc hdt)
    rcases List.mem_append.mp hd with hd | hd
    · obtain ⟨z, _, rfl⟩ := List.mem_map.mp hd; exact rowA_noL z
    · rw [List.mem_singleton.mp hd]; exact rowA_noL c
  · obtain ⟨xs, s6, hD6, hx6⟩ := hp2
    rw [List.length_map, List.take_of_length_le (Nat.le_refl _)] at hx6
    exact q xs H6 D (s1.trans s6) (same_none s1 hD) hD6 hx6
theorem m_Accounts__held {C_Accounts : Addr} {C_Refused : Addr} (T : Txt K mg C_Accounts C_Refused) : Met P w K mg base 1 C_Accounts "held" (spAcHelds K C_Accounts) [] := by
  refine met T.cl_Accounts T.me_Accounts__held sc_Accounts__held (fun vs H Q E h => ?_) (fun f cdv A outer s H vs Q E hr h => ?_)
  · obtain ⟨p, n, b, h, he, s, rfl, _⟩ := h; rfl
  obtain ⟨p, n, b, h, he, s, rfl, aw, hok, sh, q⟩ := h
  obtain ⟨dx, g⟩ := aw.at_.ins
  have la := aw.hlen
  refine ⟨_, (pss_one (ps_ret (pe_lc (own := [("key", 1)]) (g := gName 1) (by rfl) sc_Accounts__held.nd (pi_list (pe_callB (call_sortedDS rfl (units65 hr)) (by rfl) T.z_sorted (by decide +kernel) (pa_cons (pe_fld (pv 0) rfl) pa_nil))) (blkOk_by (own := [("key", 1)]) (N := ["self", "key"]) (sc := defScope s_Accounts__held) (by decide +kernel)) (fun _ _ _ _ _ => pg_name (i := 1) sc_Accounts__held.nd rfl (Or.inl rfl)) (fun _ _ _ _ _ => pts_nil) (fun _ _ _ _ _ => (pe_op (kcatA (K := K)) (pe_tup (pa_cons (pv 1) pa_nil)) (pe_dget (by exact hu_of hr) (kfld (K := K) (pv 0)) (pv 1) (fun _ _ => rfl))))))), ?_⟩
  walk_at "rds"
  refine ⟨p, _, dx, _, _, rfl, g, T.cl_Accounts, T.na_Accounts__holds, rfl, ?_⟩
  walk_at "rds"
  refine ⟨h, _, he.map (fun k => k.1), rfl, .inl aw.at_.ho, (by exact kvs_keys), by have := hsOf_len he; rw [aw.hs] at this; rw [List.length_map]; omega, fun l hl => ?_⟩
  walk_at "rds"
  have s1 : Same H (upd H l (.lst ((sortK s.ho).map V.str))) := same_upd hl
  have hl1 : upd H l (.lst ((sortK s.ho).map V.str)) l = some (.lst ((sortK s.ho).map V.str)) := upd_same
  have e1 : upd H l (.lst ((sortS (he.map fun k => k.1)).map V.str)) = upd H l (.lst ((sortK s.ho).map V.str)) := by unfold sortK; rw [← aw.hs, hsOf_keys]
  rw [e1]
  generalize upd H l (.lst ((sortK s.ho).map V.str)) = H1 at s1 hl1
  have lK : (sortK s.ho).length ≤ 1000 := by rw [sortK_len]; exact la
  refine ⟨⟨_, sq hl1⟩, fun D hD => ?_⟩
  refine lc_it (walk_list (K := K) (a := l) (xs := (sortK s.ho).map V.str)) (Pv := fun i H' => ∃ xs, Same H1 H' ∧ H' D = some (.lst xs) ∧ DtAll K H' none xs (((sortK s.ho).take i).map (rowH s.ho))) ⟨[], same_upd hD, upd_same, .nil⟩ (fun _ _ _ h => by obtain ⟨_, h, _⟩ := h; exact sq (h _ _ hl1)) (fun i x H6 H7 hi hp2 hy => ?_) (fun H6 hp2 => ?_)
  · obtain ⟨xs, s6, hD6, hx6⟩ := hp2
    obtain ⟨rfl, gx⟩ := hy
    rw [List.length_map] at hi
    rw [List.getElem?_map, List.getElem?_eq_getElem hi] at gx
    obtain rfl : V.str (sortK s.ho)[i] = x := Option.some.inj gx
    obtain ⟨y, gy, mk⟩ := sortK_get hok (List.getElem_mem hi)
    have ht : (sortK s.ho).take (i + 1) = (sortK s.ho).take i ++ [(sortK s.ho)[i]] := by rw [List.take_add_one, List.getElem?_eq_getElem hi]; rfl
    have a6 := aw.at_.on (s1.trans s6)
    obtain ⟨dx6, g6⟩ := a6.ins
    rw [ht, List.map_append]
    generalize (sortK s.ho)[i] = c at gy mk
    have e3 : rowH s.ho c = .tuple [.str c, .str y.1, .str y.2.1, .int y.2.2] := by unfold rowH; rw [gy]
    have hc := sh.2 _ mk
    have gh := gA_hsOf he c
    rw [aw.hs, gy] at gh
    obtain ⟨x, gk, ex⟩ := Option.map_eq_some_iff.mp gh.symm
    have htx := a6.tp _ (gA_some gk)
    subst ex
    refine ⟨rfl, tyes ?_⟩
    walk_at "rds"
    intro t0 ht0
    have st0 := same_upd (o := .tup [.str c]) ht0
    have e0 : upd H7 t0 (.tup [.str c]) t0 = some (.tup [.str c]) := upd_same
    have a7 := a6.on st0
    have hD7 := st0 _ _ hD6
    have hx7 := hx6.on st0
    have s7 := s6.trans st0
    have htx7 := st0 _ _ htx
    generalize upd H7 t0 (.tup [V.str c]) = H8 at e0 a7 hD7 hx7 s7 htx7
    obtain ⟨dx7, g7⟩ := a7.ins
    walk_at "rds"
    refine ⟨p, _, dx7, _, _, rfl, g7, T.cl_Accounts, T.na_Accounts__holds, rfl, ?_⟩
    walk_at "rds"
    refine ⟨h, _, rfl, .inl ⟨_, Sum.inr c, .inl a7.ho, rfl, by rw [ho_val, gk]; rfl⟩, ?_⟩
    have dA : Dt K H8 none (.ref t0) (.tuple [.str c]) := .tup (.inl e0) (.cons (.str _ (Nat.le_trans hc.1.1 (by decide))) .nil)
    have dB : Dt K H8 none (.ref x.1) (.tuple [.str x.2.1, .str x.2.2.1, .int x.2.2.2]) := .tup (.inl htx7) (.cons (.str _ (Nat.le_trans hc.2.1.1 (by decide))) (.cons (.str _ (Nat.le_trans hc.2.2.1 (by decide))) (.cons (.int _) .nil)))
    refine cat_dt dA dB (by show 1 + 3 ≤ 100000; decide) fun H9 v9 s9 d9 => ?_
    have hD9 := s9 _ _ hD7
    have hxl : xs.length ≤ i := by rw [hx6.length, List.length_map, List.length_take]; omega
    refine ⟨xs, hD9, sz1000' (by omega), xs ++ [v9], same_mut (s7.trans s9) hD, upd_same, ?_⟩
    have hdt : Dt K H9 none v9 (rowH s.ho c) := by rw [e3]; exact d9
    refine DtAll.keep (tp_put hD9) _ _ (noLs_all fun d hd => ?_) ((hx7.on s9).snoc hdt)
    rcases List.mem_append.mp hd with hd | hd
    · obtain ⟨z, _, rfl⟩ := List.mem_map.mp hd; exact rowH_noL z
    · rw [List.mem_singleton.mp hd]; exact rowH_noL c
  · obtain ⟨xs, s6, hD6, hx6⟩ := hp2
    rw [List.length_map, List.take_of_length_le (Nat.le_refl _)] at hx6
    exact q xs H6 D (s1.trans s6) (same_none s1 hD) hD6 hx6
end

def spAcClone (C : Addr) : Sp := fun vs H Q _ => ∃ (p n b h : Addr) (he : HE) (s : AS), vs = [.ref p] ∧ AW C H p n b h he s ∧
  ∀ H' p' n' b' h', Same H H' → H p' = none → H n' = none → H b' = none → H h' = none → AcAt C H' p' n' b' h' s.ac he s.su → Q (.ref p') H'
section
variable {P : Program} {w : World} {K : PySem.W.Frag} {mg : Str → Option Value} {base : Heap}
theorem m_Accounts__clone {C_Accounts : Addr} {C_Refused : Addr} (T : Txt K mg C_Accounts C_Refused) : Met P w K mg base 3 C_Accounts "clone" (spAcClone C_Accounts) [] := by
  have k_Accounts := k_Accounts (P := P) (w := w) (base := base) T
  refine met T.cl_Accounts T.me_Accounts__clone sc_Accounts__clone (fun vs H Q E h => ?_) (fun f cdv A outer s H vs Q E hr h => ?_)
  · obtain ⟨p, n, b, h, he, s, rfl, _⟩ := h; rfl
  obtain ⟨p, n, b, h, he, s, rfl, aw, q⟩ := h
  refine ⟨_, (pss_cons (ps_set (i := 1) sc_Accounts__clone.nd rfl (Or.inl rfl) (pe_mk0 k_Accounts hr (by decide) (by rfl)))
      (pss_cons (ps_fld (pv 1) (pe_callTy call_dictD (by rfl) T.z_dict (by decide +kernel) (pa_cons (pe_fld (pv 0) rfl) pa_nil)) rfl)
      (pss_cons (ps_fld (pv 1) (pe_callTy call_dictD (by rfl) T.z_dict (by decide +kernel) (pa_cons (pe_fld (pv 0) rfl) pa_nil)) rfl)
      (pss_cons (ps_fld (pv 1) (pe_callTy call_dictD (by rfl) T.z_dict (by decide +kernel) (pa_cons (pe_fld (pv 0) rfl) pa_nil)) rfl)
      (pss_cons (ps_fld (pv 1) (pe_fld (pv 0) rfl) rfl)
      (pss_one (ps_ret (pv 1)))))))), ?_⟩
  walk_at "rds"
  intro p2 dx2 hp2 hdx2 hne2
  refine ⟨p2, dx2, rfl, upd_same, fun H1 n2 b2 h2 kp hn2 hb2 hh2 a2 => ⟨rfl, ?_⟩⟩
  have s1 : Same H H1 := Same.made hp2 hdx2 kp
  obtain ⟨dx3, g2⟩ := a2.ins
  have a0 := aw.at_
  clear kp hn2 hb2 hh2 a2 hdx2 hne2
  obtain ⟨dx, g⟩ := (a0.on s1).ins
  have aH1 := a0.on s1
  walk_at "rds"
  refine ⟨p, _, dx, _, _, rfl, g, T.cl_Accounts, T.na_Accounts__owners, rfl, ?_⟩
  walk_at "rds"
  refine ⟨n, _, rfl, .inl aH1.ow, fun n3 hn3 => ?_⟩
  walk_at "rds"
  refine ⟨p2, _, dx3, _, rfl, (same_upd hn3) _ _ g2, T.cl_Accounts, T.na_Accounts__owners, (by show 4 < 1000; decide), ?_⟩
  have fn3 := same_none s1 hn3
  have s2 : Same H (upd (upd H1 n3 (.dK (aowD s.ac))) p2 (.ins C_Accounts dx3 (acF n3 b2 h2 0))) := same_mut (s1.trans (same_upd hn3)) hp2
  have p2n : p2 ≠ n3 := ne_of_none g2 hn3
  have en3 : (upd (upd H1 n3 (.dK (aowD s.ac))) p2 (.ins C_Accounts dx3 (acF n3 b2 h2 0))) n3 = some (.dK (aowD s.ac)) := by rw [upd_ne p2n.symm]; exact upd_same
  have g3 : (upd (upd H1 n3 (.dK (aowD s.ac))) p2 (.ins C_Accounts dx3 (acF n3 b2 h2 0))) p2 = some (.ins C_Accounts dx3 (acF n3 b2 h2 0)) := upd_same
  have eF : upd (upd H1 n3 (.dK (aowD s.ac))) p2 (.ins C_Accounts dx3 (putF "_owners" (.ref n3) (acF n2 b2 h2 0))) = upd (upd H1 n3 (.dK (aowD s.ac))) p2 (.ins C_Accounts dx3 (acF n3 b2 h2 0)) := rfl
  rw [eF]
  generalize upd (upd H1 n3 (.dK (aowD s.ac))) p2 (.ins C_Accounts dx3 (acF n3 b2 h2 0)) = H2 at s2 en3 g3
  have aH2 := a0.on s2
  obtain ⟨dx4, g4⟩ := aH2.ins
  walk_at "rds"
  refine ⟨p, _, dx4, _, _, rfl, g4, T.cl_Accounts, T.na_Accounts__balances, rfl, ?_⟩
  walk_at "rds"
  refine ⟨b, _, rfl, .inl aH2.ba, fun b3 hb3 => ?_⟩
  walk_at "rds"
  refine ⟨p2, _, dx3, _, rfl, (same_upd hb3) _ _ g3, T.cl_Accounts, T.na_Accounts__balances, (by show 4 < 1000; decide), ?_⟩
  have fb3 := same_none s2 hb3
  have s3 : Same H (upd (upd H2 b3 (.dK (baD s.ac))) p2 (.ins C_Accounts dx3 (acF n3 b3 h2 0))) := same_mut (s2.trans (same_upd hb3)) hp2
  have p2b : p2 ≠ b3 := ne_of_none g3 hb3
  have nb : n3 ≠ b3 := ne_of_none en3 hb3
  have en4 : (upd (upd H2 b3 (.dK (baD s.ac))) p2 (.ins C_Accounts dx3 (acF n3 b3 h2 0))) n3 = some (.dK (aowD s.ac)) := by rw [upd_ne p2n.symm, upd_ne nb]; exact en3
  have eb4 : (upd (upd H2 b3 (.dK (baD s.ac))) p2 (.ins C_Accounts dx3 (acF n3 b3 h2 0))) b3 = some (.dK (baD s.ac)) := by rw [upd_ne p2b.symm]; exact upd_same
  have g5 : (upd (upd H2 b3 (.dK (baD s.ac))) p2 (.ins C_Accounts dx3 (acF n3 b3 h2 0))) p2 = some (.ins C_Accounts dx3 (acF n3 b3 h2 0)) := upd_same
  have eF2 : upd (upd H2 b3 (.dK (baD s.ac))) p2 (.ins C_Accounts dx3 (putF "_balances" (.ref b3) (acF n3 b2 h2 0))) = upd (upd H2 b3 (.dK (baD s.ac))) p2 (.ins C_Accounts dx3 (acF n3 b3 h2 0)) := rfl
  rw [eF2]
  generalize upd (upd H2 b3 (.dK (baD s.ac))) p2 (.ins C_Accounts dx3 (acF n3 b3 h2 0)) = H3 at s3 en4 eb4 g5
  have aH3 := a0.on s3
  obtain ⟨dx5, g6⟩ := aH3.ins
  walk_at "rds"
  refine ⟨p, _, dx5, _, _, rfl, g6, T.cl_Accounts, T.na_Accounts__holds, rfl, ?_⟩
  walk_at "rds"
  refine ⟨h, _, rfl, .inl aH3.ho, fun h3 hh3 => ?_⟩
  walk_at "rds"
  refine ⟨p2, _, dx3, _, rfl, (same_upd hh3) _ _ g5, T.cl_Accounts, T.na_Accounts__holds, (by show 4 < 1000; decide), ?_⟩
  have fh3 := same_none s3 hh3
  have s4 : Same H (upd (upd H3 h3 (.dK (hoD he))) p2 (.ins C_Accounts dx3 (acF n3 b3 h3 0))) := same_mut (s3.trans (same_upd hh3)) hp2
  have p2h : p2 ≠ h3 := ne_of_none g5 hh3
  have nh : n3 ≠ h3 := ne_of_none en4 hh3
  have bh : b3 ≠ h3 := ne_of_none eb4 hh3
  have en5 : (upd (upd H3 h3 (.dK (hoD he))) p2 (.ins C_Accounts dx3 (acF n3 b3 h3 0))) n3 = some (.dK (aowD s.ac)) := by rw [upd_ne p2n.symm, upd_ne nh]; exact en4
  have eb5 : (upd (upd H3 h3 (.dK (hoD he))) p2 (.ins C_Accounts dx3 (acF n3 b3 h3 0))) b3 = some (.dK (baD s.ac)) := by rw [upd_ne p2b.symm, upd_ne bh]; exact eb4
  have eh5 : (upd (upd H3 h3 (.dK (hoD he))) p2 (.ins C_Accounts dx3 (acF n3 b3 h3 0))) h3 = some (.dK (hoD he)) := by rw [upd_ne p2h.symm]; exact upd_same
  have g7 : (upd (upd H3 h3 (.dK (hoD he))) p2 (.ins C_Accounts dx3 (acF n3 b3 h3 0))) p2 = some (.ins C_Accounts dx3 (acF n3 b3 h3 0)) := upd_same
  have eF3 : upd (upd H3 h3 (.dK (hoD he))) p2 (.ins C_Accounts dx3 (putF "_holds" (.ref h3) (acF n3 b3 h2 0))) = upd (upd H3 h3 (.dK (hoD he))) p2 (.ins C_Accounts dx3 (acF n3 b3 h3 0)) := rfl
  rw [eF3]
  generalize upd (upd H3 h3 (.dK (hoD he))) p2 (.ins C_Accounts dx3 (acF n3 b3 h3 0)) = H4 at s4 en5 eb5 eh5 g7
  have aH4 := a0.on s4
  obtain ⟨dx6, g8⟩ := aH4.ins
  walk_at "rds"
  refine ⟨p, _, dx6, _, _, rfl, g8, T.cl_Accounts, T.na_Accounts__supply, rfl, ?_⟩
  walk_at "rds"
  refine ⟨p2, _, dx3, _, rfl, g7, T.cl_Accounts, T.na_Accounts__supply, (by show 4 < 1000; decide), ?_⟩
  walk_at "rds"
  have s5 := same_mut (o := .ins C_Accounts dx3 (acF n3 b3 h3 s.su)) s4 hp2
  exact q _ p2 n3 b3 h3 s5 hp2 fn3 fb3 fh3 ⟨⟨dx3, upd_same⟩, by rw [upd_ne p2n.symm]; exact en5, by rw [upd_ne p2b.symm]; exact eb5, by rw [upd_ne p2h.symm]; exact eh5, fun e m => by rw [upd_ne (ne_of (aH4.tp e m) g7 (by intro z; cases z))]; exact aH4.tp e m, nb, nh, bh⟩
end

/-! ### sums -/
def sumI (l : List Int) : Int := l.foldr (· + ·) 0
theorem sumI_cons (a : Int) (l : List Int) : sumI (a :: l) = a + sumI l := rfl
theorem sumI_app (l m : List Int) : sumI (l ++ m) = sumI l + sumI m := by
  induction l with
  | nil => show _ = 0 + _; rw [List.nil_append]; omega
  | cons a r ih => rw [List.cons_append, sumI_cons, sumI_cons, ih]; omega
theorem sumI_perm {l m : List Int} (h : l.Perm m) : sumI l = sumI m := by
  induction h with
  | nil => rfl
  | cons a _ ih => rw [sumI_cons, sumI_cons, ih]
  | swap a b l => rw [sumI_cons, sumI_cons, sumI_cons, sumI_cons]; omega
  | trans _ _ i1 i2 => exact i1.trans i2
theorem sumI_nonneg : ∀ {l : List Int}, (∀ x ∈ l, 0 ≤ x) → 0 ≤ sumI l
  | [], _ => Int.le_refl _
  | a :: r, h => by
    have h1 := h a List.mem_cons_self
    have h2 := sumI_nonneg (l := r) fun x m => h x (List.mem_cons_of_mem _ m)
    rw [sumI_cons]; omega
section
variable {α : Type} (f : α → Int)
def sumF (ks : List (Str × α)) : Int := sumI (ks.map fun e => f e.2)
theorem sumF_new {ks : List (Str × α)} {c : Str} {y : α} (g : gA ks c = none) : sumF f (pA ks c y) = sumF f ks + f y := by
  unfold pA
  rw [if_neg (fun z => gA_none.mp g (any_mem.mp z))]
  unfold sumF
  rw [List.map_append, sumI_app]
  show _ + (f y + 0) = _
  omega
theorem sum_same : ∀ {ks : List (Str × α)} {c : Str} {y : α}, c ∉ ks.map (·.1) → sumI ((ks.map fun k => if k.1 = c then (k.1, y) else k).map fun e => f e.2) = sumI (ks.map fun e => f e.2)
  | [], _, _, _ => rfl
  | e :: r, c, y, h => by
    have h1 : e.1 ≠ c := fun z => h (by rw [← z]; exact List.mem_cons_self)
    have h2 : c ∉ r.map (·.1) := fun z => h (List.mem_cons_of_mem _ z)
    rw [List.map_cons, List.map_cons, List.map_cons, sumI_cons, sumI_cons, sum_same (ks := r) h2, if_neg h1]
theorem sum_map : ∀ {ks : List (Str × α)} {c : Str} {x y : α}, kOk ks → gA ks c = some x → sumI ((ks.map fun k => if k.1 = c then (k.1, y) else k).map fun e => f e.2) = sumI (ks.map fun e => f e.2) - f x + f y
  | e :: r, c, x, y, ok, g => by
    have ok' : kOk (e :: r) := ok
    unfold kOk at ok'
    rw [List.map_cons, List.nodup_cons] at ok'
    rw [List.map_cons, List.map_cons, List.map_cons, sumI_cons, sumI_cons]
    by_cases h : e.1 = c
    · have gx : x = e.2 := by
        unfold gA at g
        rw [List.find?_cons, decide_eq_true h] at g
        exact (Option.some.inj g).symm
      rw [if_pos h, sum_same f (by rw [← h]; exact ok'.1), gx]
      show f y + _ = _
      omega
    · rw [if_neg h]
      have g' : gA r c = some x := by
        unfold gA at g ⊢
        rw [List.find?_cons, decide_eq_false h] at g
        exact g
      rw [sum_map (ks := r) ok'.2 g']
      omega
theorem sumF_put {ks : List (Str × α)} {c : Str} {x y : α} (ok : kOk ks) (g : gA ks c = some x) : sumF f (pA ks c y) = sumF f ks - f x + f y := by
  have m : c ∈ ks.map (·.1) := List.mem_map.mpr ⟨_, gA_some g, rfl⟩
  unfold pA
  rw [if_pos (any_mem.mpr m)]
  exact sum_map f ok g
theorem rm_same : ∀ {ks : List (Str × α)} {c : Str}, c ∉ ks.map (·.1) → rmA ks c = ks
  | [], _, _ => rfl
  | e :: r, c, h => by
    have h1 : e.1 ≠ c := fun z => h (by rw [← z]; exact List.mem_cons_self)
    have h2 : c ∉ r.map (·.1) := fun z => h (List.mem_cons_of_mem _ z)
    have ih := rm_same (ks := r) h2
    unfold rmA at ih ⊢
    rw [List.filter_cons, if_pos (decide_eq_true h1), ih]
theorem sumF_rm : ∀ {ks : List (Str × α)} {c : Str} {x : α}, kOk ks → gA ks c = some x → sumF f (rmA ks c) = sumF f ks - f x
  | e :: r, c, x, ok, g => by
    have ok' : kOk (e :: r) := ok
    unfold kOk at ok'
    rw [List.map_cons, List.nodup_cons] at ok'
    by_cases h : e.1 = c
    · have gx : x = e.2 := by
        unfold gA at g
        rw [List.find?_cons, decide_eq_true h] at g
        exact (Option.some.inj g).symm
      have e1 : rmA (e :: r) c = r := by
        have := rm_same (ks := r) (c := c) (by rw [← h]; exact ok'.1)
        unfold rmA at this ⊢
        rw [List.filter_cons, if_neg (by simp [h]), this]
      rw [e1, gx]
      unfold sumF
      rw [List.map_cons, sumI_cons]
      omega
    · have g' : gA r c = some x := by
        unfold gA at g ⊢
        rw [List.find?_cons, decide_eq_false h] at g
        exact g
      have e1 : rmA (e :: r) c = e :: rmA r c := by unfold rmA; rw [List.filter_cons, if_pos (by simp [h])]
      have ih := sumF_rm (ks := r) ok'.2 g'
      rw [e1]
      unfold sumF at ih ⊢
      rw [List.map_cons, List.map_cons, sumI_cons, sumI_cons, ih]
      omega
end
def sB (ac : AB) : Int := sumF (fun x : Int × Int => x.2) ac
def sH (ho : HS) : Int := sumF (fun x : Str × Str × Int => x.2.2) ho
/-- what always holds -/
structure AInv (s : AS) (m : Nat) : Prop where
  ok : kOk s.ac
  okh : kOk s.ho
  len : s.ac.length ≤ m
  hlen : s.ho.length ≤ m
  src : ∀ e ∈ s.ho, gA s.ac e.2.1 ≠ none ∧ gA s.ac e.2.2.1 ≠ none
  pos : ∀ e ∈ s.ac, 0 ≤ e.2.2
  hpos : ∀ e ∈ s.ho, 0 ≤ e.2.2.2
  sum : sB s.ac + sH s.ho = s.su
  lim : s.su ≤ 1000000000000000
  sh : ShA s
/-- an operation -/
structure OpA where
  verb : Str
  c : Int
  x : Str
  y : Str
  a : Int
  k : Str
structure OpAOk (o : OpA) : Prop where
  verb : o.verb = "create" ∨ o.verb = "issue" ∨ o.verb = "burn" ∨ o.verb = "pay" ∨ o.verb = "hold" ∨ o.verb = "settle" ∨ o.verb = "release" ∨ o.verb = "close"
  x : Tx o.x
  y : Tx o.y
  a : 0 ≤ o.a
  k : Tx o.k
def acOp (s : AS) (o : OpA) : Sum Str AS := if o.verb = "create" then opCreate s o.c o.x else if o.verb = "close" then opClose s o.c o.x else if o.verb = "issue" then opIssue s o.c o.x o.a else if o.verb = "burn" then opBurn s o.c o.x o.a else if o.verb = "pay" then opPay s o.c o.x o.y o.a else if o.verb = "hold" then opHold s o.c o.x o.y o.a o.k else if o.verb = "settle" then opSettle s o.c o.k else opRelease s o.c o.k
/-- a balance is changed -/
theorem AInv.addB_pos {s : AS} {m : Nat} (h : AInv s m) {n : Str} {x : Int × Int} {d : Int} (g : gA s.ac n = some x) (hd : 0 ≤ x.2 + d) : ∀ e ∈ addB s.ac n d, 0 ≤ e.2.2 := fun e me => by
  rw [addB_some g] at me
  rcases pA_mem me with rfl | ⟨me, _⟩
  · exact hd
  · exact h.pos e me
theorem addB_sum {ac : AB} {n : Str} {x : Int × Int} {d : Int} (ok : kOk ac) (g : gA ac n = some x) : sB (addB ac n d) = sB ac + d := by
  unfold sB
  rw [addB_some g, sumF_put _ ok g]
  show _ - x.2 + (x.2 + d) = _
  omega
theorem addB_keys {ac : AB} {n : Str} {d : Int} {e : Str × (Int × Int)} (m : e ∈ addB ac n d) : ∃ e' ∈ ac, e'.1 = e.1 := by
  unfold addB at m
  split at m
  · exact ⟨e, m, rfl⟩
  · rename_i x g
    rcases pA_mem m with rfl | ⟨m, _⟩
    · exact ⟨_, gA_some g, rfl⟩
    · exact ⟨e, m, rfl⟩
theorem gA_posB {s : AS} {m : Nat} (h : AInv s m) {n : Str} {x : Int × Int} (g : gA s.ac n = some x) : 0 ≤ x.2 := h.pos _ (gA_some g)
theorem chkF_none {s : AS} {n : Str} {a : Int} {x : Int × Int} (g : gA s.ac n = some x) (h : chkF s n a = none) : a ≤ x.2 := by
  unfold chkF at h
  rw [g] at h
  have h : (if x.2 < a then some ("funds" : Str) else none) = none := h
  by_cases e : x.2 < a
  · rw [if_pos e] at h; cases h
  · omega
theorem chkP_none2 {s : AS} {c : Int} {x y : Str} {a : Int} (h : chkP s c x y a = none) : ∃ u v, gA s.ac x = some u ∧ gA s.ac y = some v ∧ a ≤ u.2 := by
  obtain ⟨⟨u, gu⟩, v, gv⟩ := chkP_none h
  refine ⟨u, v, gu, gv, chkF_none gu ?_⟩
  unfold chkP at h
  cases e1 : chk s y with
  | some z => rw [e1] at h; cases h
  | none =>
    rw [e1] at h
    dsimp only at h
    cases e2 : chkO s c x with
    | some z => rw [e2] at h; cases h
    | none => rw [e2] at h; exact h
/-- balances and holds change, the accounts stay -/
theorem AInv.upd {s s' : AS} {m : Nat} (h : AInv s m) (ok : kOk s'.ac) (okh : kOk s'.ho) (len : s'.ac.length ≤ m + 1) (hlen : s'.ho.length ≤ m + 1) (src : ∀ e ∈ s'.ho, gA s'.ac e.2.1 ≠ none ∧ gA s'.ac e.2.2.1 ≠ none)
    (pos : ∀ e ∈ s'.ac, 0 ≤ e.2.2) (hpos : ∀ e ∈ s'.ho, 0 ≤ e.2.2.2) (sum : sB s'.ac + sH s'.ho = s'.su) (lim : s'.su ≤ 1000000000000000) (sh : ShA s') : AInv s' (m + 1) := ⟨ok, okh, len, hlen, src, pos, hpos, sum, lim, sh⟩

/-! ### each operation keeps what always holds -/
theorem create_inv {s s' : AS} {m : Nat} {c : Int} {n : Str} (h : AInv s m) (tn : Tx n) (e : opCreate s c n = .inr s') : AInv s' (m + 1) ∧ s'.su = s.su := by
  unfold opCreate at e
  cases g : gA s.ac n with
  | some x => rw [g] at e; cases e
  | none =>
    rw [g] at e
    have e : (if 100 ≤ s.ac.length then (.inl "full" : Sum Str AS) else .inr { s with ac := pA s.ac n (c, 0) }) = .inr s' := e
    by_cases l : 100 ≤ s.ac.length
    · rw [if_pos l] at e; cases e
    rw [if_neg l] at e
    cases e
    refine ⟨h.upd (pA_ok _ _ h.ok) h.okh (by have := pA_len s.ac n (c, 0); have := h.len; show (pA s.ac n (c, 0)).length ≤ m + 1; omega) (Nat.le_succ_of_le h.hlen) (fun e me => ?_) (fun e me => ?_) h.hpos ?_ h.lim ⟨fun e me => ?_, h.sh.2⟩, rfl⟩
    · have := h.src e me
      refine ⟨?_, ?_⟩
      · show gA (pA s.ac n (c, 0)) _ ≠ none
        rw [gA_put h.ok]; split
        · intro z; cases z
        · exact this.1
      · show gA (pA s.ac n (c, 0)) _ ≠ none
        rw [gA_put h.ok]; split
        · intro z; cases z
        · exact this.2
    · rcases pA_mem me with rfl | ⟨me, _⟩
      · exact Int.le_refl _
      · exact h.pos e me
    · have e1 : sB (pA s.ac n (c, 0)) = sB s.ac + 0 := sumF_new _ g
      have := h.sum
      show sB (pA s.ac n (c, 0)) + sH s.ho = s.su
      omega
    · rcases pA_mem me with rfl | ⟨me, _⟩
      · exact tn
      · exact h.sh.1 e me
theorem heldB_false {ho : HS} {n : Str} (h : heldB ho n = false) : ∀ e ∈ ho, e.2.1 ≠ n ∧ e.2.2.1 ≠ n := fun e me => by
  have := List.any_eq_false.mp h e me
  simp at this
  exact this
theorem close_inv {s s' : AS} {m : Nat} {c : Int} {n : Str} (h : AInv s m) (e : opClose s c n = .inr s') : AInv s' (m + 1) ∧ s'.su = s.su := by
  unfold opClose at e
  cases e1 : chkO s c n with
  | some z => rw [e1] at e; cases e
  | none =>
    rw [e1] at e
    dsimp only at e
    cases g : gA s.ac n with
    | none => rw [g] at e; cases e
    | some x =>
      rw [g] at e
      dsimp only at e
      by_cases l : x.2 ≠ 0 ∨ heldB s.ho n = true
      · rw [if_pos l] at e; cases e
      rw [if_neg l] at e
      cases e
      have x0 : x.2 = 0 := by
        cases d : decide (x.2 = 0) with
        | true => exact of_decide_eq_true d
        | false => exact absurd (.inl (of_decide_eq_false d)) l
      have hb : heldB s.ho n = false := by
        cases d : heldB s.ho n with
        | true => exact absurd (.inr d) l
        | false => rfl
      have nh := heldB_false hb
      refine ⟨h.upd (rmA_ok _ h.ok) h.okh (by have := rmA_len s.ac n; have := h.len; show (rmA s.ac n).length ≤ m + 1; omega) (Nat.le_succ_of_le h.hlen) (fun e me => ?_) (fun e me => h.pos e (List.mem_filter.mp me).1) h.hpos ?_ h.lim ⟨fun e me => h.sh.1 e (List.mem_filter.mp me).1, h.sh.2⟩, rfl⟩
      · have := h.src e me
        have nn := nh e me
        refine ⟨?_, ?_⟩
        · show gA (rmA s.ac n) _ ≠ none
          rw [gA_rmA, if_neg nn.1]; exact this.1
        · show gA (rmA s.ac n) _ ≠ none
          rw [gA_rmA, if_neg nn.2]; exact this.2
      · have e1 : sB (rmA s.ac n) = sB s.ac - x.2 := sumF_rm _ h.ok g
        have := h.sum
        show sB (rmA s.ac n) + sH s.ho = s.su
        omega
/-- a balance of an account that is there goes up or down -/
theorem bal_inv {s : AS} {m : Nat} (h : AInv s m) {n : Str} {x : Int × Int} {d : Int} (g : gA s.ac n = some x) (hd : 0 ≤ x.2 + d) : kOk (addB s.ac n d) ∧ (addB s.ac n d).length ≤ m ∧ (∀ k, gA s.ac k ≠ none → gA (addB s.ac n d) k ≠ none) ∧ (∀ e ∈ addB s.ac n d, 0 ≤ e.2.2) ∧ (∀ e ∈ addB s.ac n d, Tx e.1) :=
  ⟨addB_ok n d h.ok, by rw [addB_len (by rw [g]; intro z; cases z)]; exact h.len, fun k gk => addB_get h.ok gk, h.addB_pos g hd, fun e me => by
    obtain ⟨e', me', ee⟩ := addB_keys me
    rw [← ee]; exact h.sh.1 e' me'⟩
theorem issue_inv {s s' : AS} {m : Nat} {c : Int} {n : Str} {a : Int} (h : AInv s m) (a0 : 0 ≤ a) (e : opIssue s c n a = .inr s') : AInv s' (m + 1) ∧ s'.su = s.su + a := by
  unfold opIssue at e
  by_cases h1 : c = -1
  case neg => rw [if_pos h1] at e; cases e
  rw [if_neg (fun n => n h1)] at e
  cases e1 : chk s n with
  | some z => rw [e1] at e; cases e
  | none =>
    rw [e1] at e
    dsimp only at e
    obtain ⟨x, g⟩ := chk_none e1
    by_cases l : 1000000000000000 < s.su + a
    · rw [if_pos l] at e; cases e
    rw [if_neg l] at e
    cases e
    have hp := gA_posB h g
    obtain ⟨b1, b2, b3, b4, b5⟩ := bal_inv h g (d := a) (by omega)
    refine ⟨h.upd b1 h.okh (Nat.le_succ_of_le b2) (Nat.le_succ_of_le h.hlen) (fun e me => ⟨b3 _ (h.src e me).1, b3 _ (h.src e me).2⟩) b4 h.hpos ?_ (by show s.su + a ≤ _; omega) ⟨b5, h.sh.2⟩, rfl⟩
    show sB (addB s.ac n a) + sH s.ho = s.su + a
    rw [addB_sum h.ok g]
    have := h.sum
    omega
theorem burn_inv {s s' : AS} {m : Nat} {c : Int} {n : Str} {a : Int} (h : AInv s m) (a0 : 0 ≤ a) (e : opBurn s c n a = .inr s') : AInv s' (m + 1) ∧ s'.su = s.su - a := by
  unfold opBurn at e
  cases e1 : chkO s c n with
  | some z => rw [e1] at e; cases e
  | none =>
    rw [e1] at e
    dsimp only at e
    cases e2 : chkF s n a with
    | some z => rw [e2] at e; cases e
    | none =>
      rw [e2] at e
      cases e
      obtain ⟨x, g, _⟩ := chkO_none e1
      have hf := chkF_none g e2
      obtain ⟨b1, b2, b3, b4, b5⟩ := bal_inv h g (d := -a) (by omega)
      refine ⟨h.upd b1 h.okh (Nat.le_succ_of_le b2) (Nat.le_succ_of_le h.hlen) (fun e me => ⟨b3 _ (h.src e me).1, b3 _ (h.src e me).2⟩) b4 h.hpos ?_ (by have := h.lim; show s.su - a ≤ _; omega) ⟨b5, h.sh.2⟩, rfl⟩
      show sB (addB s.ac n (-a)) + sH s.ho = s.su - a
      rw [addB_sum h.ok g]
      have := h.sum
      omega
theorem pay_inv {s s' : AS} {m : Nat} {c : Int} {x y : Str} {a : Int} (h : AInv s m) (a0 : 0 ≤ a) (e : opPay s c x y a = .inr s') : AInv s' (m + 1) ∧ s'.su = s.su := by
  unfold opPay at e
  cases e1 : chkP s c x y a with
  | some z => rw [e1] at e; cases e
  | none =>
    rw [e1] at e
    cases e
    obtain ⟨u, v, gu, gv, hf⟩ := chkP_none2 e1
    obtain ⟨b1, b2, b3, b4, b5⟩ := bal_inv h gu (d := -a) (by omega)
    have gy := b3 y (by rw [gv]; intro z; cases z)
    obtain ⟨v', gv'⟩ := some_of gy
    have hv' := b4 _ (gA_some gv')
    have hv' : 0 ≤ v'.2 := hv'
    refine ⟨h.upd (addB_ok _ _ b1) h.okh (by show (addB (addB s.ac x (-a)) y a).length ≤ m + 1; rw [addB_len gy]; omega) (Nat.le_succ_of_le h.hlen) (fun e me => ⟨addB_get b1 (b3 _ (h.src e me).1), addB_get b1 (b3 _ (h.src e me).2)⟩) (fun e me => ?_) h.hpos ?_ h.lim ⟨fun e me => ?_, h.sh.2⟩, rfl⟩
    · have me : e ∈ addB (addB s.ac x (-a)) y a := me
      rw [addB_some gv'] at me
      rcases pA_mem me with rfl | ⟨me, _⟩
      · show 0 ≤ v'.2 + a; omega
      · exact b4 e me
    · show sB (addB (addB s.ac x (-a)) y a) + sH s.ho = s.su
      rw [addB_sum b1 gv', addB_sum h.ok gu]
      have := h.sum
      omega
    · obtain ⟨e', me', ee⟩ := addB_keys me
      rw [← ee]; exact b5 e' me'
theorem hold_inv {s s' : AS} {m : Nat} {c : Int} {x y : Str} {a : Int} {k : Str} (h : AInv s m) (a0 : 0 ≤ a) (tx : Tx x) (ty : Tx y) (tk : Tx k) (e : opHold s c x y a k = .inr s') : AInv s' (m + 1) ∧ s'.su = s.su := by
  unfold opHold at e
  cases e1 : chkP s c x y a with
  | some z => rw [e1] at e; cases e
  | none =>
    rw [e1] at e
    dsimp only at e
    cases gk : gA s.ho k with
    | some z => rw [gk] at e; cases e
    | none =>
      rw [gk] at e
      dsimp only at e
      by_cases l : 100 ≤ s.ho.length
      · rw [if_pos l] at e; cases e
      rw [if_neg l] at e
      cases e
      obtain ⟨u, v, gu, gv, hf⟩ := chkP_none2 e1
      obtain ⟨b1, b2, b3, b4, b5⟩ := bal_inv h gu (d := -a) (by omega)
      refine ⟨h.upd b1 (pA_ok _ _ h.okh) (Nat.le_succ_of_le b2) (by have := pA_len s.ho k (x, y, a); have := h.hlen; show (pA s.ho k (x, y, a)).length ≤ m + 1; omega) (fun e me => ?_) b4 (fun e me => ?_) ?_ h.lim ⟨b5, fun e me => ?_⟩, rfl⟩
      · rcases pA_mem me with rfl | ⟨me, _⟩
        · exact ⟨b3 _ (by show gA s.ac x ≠ none; rw [gu]; intro z; cases z), b3 _ (by show gA s.ac y ≠ none; rw [gv]; intro z; cases z)⟩
        · exact ⟨b3 _ (h.src e me).1, b3 _ (h.src e me).2⟩
      · rcases pA_mem me with rfl | ⟨me, _⟩
        · exact a0
        · exact h.hpos e me
      · have e1 : sH (pA s.ho k (x, y, a)) = sH s.ho + a := sumF_new _ gk
        have := h.sum
        show sB (addB s.ac x (-a)) + sH (pA s.ho k (x, y, a)) = s.su
        rw [addB_sum h.ok gu]
        omega
      · rcases pA_mem me with rfl | ⟨me, _⟩
        · exact ⟨tk, tx, ty⟩
        · exact h.sh.2 e me
theorem free_inv {s : AS} {m : Nat} {k t : Str} {x : Str × Str × Int} (h : AInv s m) (gk : gA s.ho k = some x) (ht : t = x.1 ∨ t = x.2.1) : AInv { s with ac := addB s.ac t x.2.2, ho := rmA s.ho k } (m + 1) := by
  have mk := gA_some gk
  have hp := h.hpos _ mk
  have hp : 0 ≤ x.2.2 := hp
  obtain ⟨y, gy⟩ : ∃ y, gA s.ac t = some y := some_of (by rcases ht with rfl | rfl; exact (h.src _ mk).1; exact (h.src _ mk).2)
  have hy := gA_posB h gy
  obtain ⟨b1, b2, b3, b4, b5⟩ := bal_inv h gy (d := x.2.2) (by omega)
  refine h.upd b1 (rmA_ok _ h.okh) (Nat.le_succ_of_le b2) (by have := rmA_len s.ho k; have := h.hlen; show (rmA s.ho k).length ≤ m + 1; omega) (fun e me => ⟨b3 _ (h.src e (List.mem_filter.mp me).1).1, b3 _ (h.src e (List.mem_filter.mp me).1).2⟩) b4 (fun e me => h.hpos e (List.mem_filter.mp me).1) ?_ h.lim ⟨b5, fun e me => h.sh.2 e (List.mem_filter.mp me).1⟩
  have e1 : sH (rmA s.ho k) = sH s.ho - x.2.2 := sumF_rm _ h.okh gk
  have := h.sum
  show sB (addB s.ac t x.2.2) + sH (rmA s.ho k) = s.su
  rw [addB_sum h.ok gy]
  omega
theorem settle_inv {s s' : AS} {m : Nat} {c : Int} {k : Str} (h : AInv s m) (e : opSettle s c k = .inr s') : AInv s' (m + 1) ∧ s'.su = s.su := by
  unfold opSettle at e
  cases gk : gA s.ho k with
  | none => rw [gk] at e; cases e
  | some x =>
    rw [gk] at e
    dsimp only at e
    cases e1 : chkO s c x.1 with
    | some z => rw [e1] at e; cases e
    | none => rw [e1] at e; cases e; exact ⟨free_inv h gk (.inr rfl), rfl⟩
theorem release_inv {s s' : AS} {m : Nat} {c : Int} {k : Str} (h : AInv s m) (e : opRelease s c k = .inr s') : AInv s' (m + 1) ∧ s'.su = s.su := by
  unfold opRelease at e
  cases gk : gA s.ho k with
  | none => rw [gk] at e; cases e
  | some x =>
    rw [gk] at e
    dsimp only at e
    cases e1 : chkO s c x.2.1 with
    | some z => rw [e1] at e; cases e
    | none => rw [e1] at e; cases e; exact ⟨free_inv h gk (.inl rfl), rfl⟩
/-- how the supply changes -/
def dSup (o : OpA) : Int := if o.verb = "issue" then o.a else if o.verb = "burn" then -o.a else 0
theorem AInv.op {s s' : AS} {m : Nat} {o : OpA} (h : AInv s m) (oo : OpAOk o) (e : acOp s o = .inr s') : AInv s' (m + 1) ∧ s'.su = s.su + dSup o := by
  unfold acOp at e
  have z : ∀ {t : AS}, t.su = s.su → (o.verb ≠ "issue") → (o.verb ≠ "burn") → t.su = s.su + dSup o := fun e n1 n2 => by unfold dSup; rw [if_neg n1, if_neg n2]; omega
  by_cases h1 : o.verb = "create"
  · rw [if_pos h1] at e
    obtain ⟨i, j⟩ := create_inv h oo.x e
    exact ⟨i, z j (by rw [h1]; decide) (by rw [h1]; decide)⟩
  rw [if_neg h1] at e
  by_cases h2 : o.verb = "close"
  · rw [if_pos h2] at e
    obtain ⟨i, j⟩ := close_inv h e
    exact ⟨i, z j (by rw [h2]; decide) (by rw [h2]; decide)⟩
  rw [if_neg h2] at e
  by_cases h3 : o.verb = "issue"
  · rw [if_pos h3] at e
    obtain ⟨i, j⟩ := issue_inv h oo.a e
    exact ⟨i, by rw [j]; unfold dSup; rw [if_pos h3]⟩
  rw [if_neg h3] at e
  by_cases h4 : o.verb = "burn"
  · rw [if_pos h4] at e
    obtain ⟨i, j⟩ := burn_inv h oo.a e
    exact ⟨i, by rw [j]; unfold dSup; rw [if_neg h3, if_pos h4]; omega⟩
  rw [if_neg h4] at e
  by_cases h5 : o.verb = "pay"
  · rw [if_pos h5] at e
    obtain ⟨i, j⟩ := pay_inv h oo.a e
    exact ⟨i, z j h3 h4⟩
  rw [if_neg h5] at e
  by_cases h6 : o.verb = "hold"
  · rw [if_pos h6] at e
    obtain ⟨i, j⟩ := hold_inv h oo.a oo.x oo.y oo.k e
    exact ⟨i, z j h3 h4⟩
  rw [if_neg h6] at e
  by_cases h7 : o.verb = "settle"
  · rw [if_pos h7] at e
    obtain ⟨i, j⟩ := settle_inv h e
    exact ⟨i, z j h3 h4⟩
  rw [if_neg h7] at e
  obtain ⟨i, j⟩ := release_inv h e
  exact ⟨i, z j h3 h4⟩
/-- the reasons -/
def Rsn (z : Str) : Prop := z = "taken" ∨ z = "full" ∨ z = "missing" ∨ z = "owner" ∨ z = "busy" ∨ z = "mint" ∨ z = "limit" ∨ z = "funds"
theorem Rsn.ne {z : Str} (h : Rsn z) : z ≠ "" := by
  rcases h with rfl | rfl | rfl | rfl | rfl | rfl | rfl | rfl <;> decide
theorem chk_rsn {s : AS} {n z : Str} (h : chk s n = some z) : Rsn z := by
  unfold chk at h
  split at h
  · cases h; exact .inr (.inr (.inl rfl))
  · cases h
theorem chkO_rsn {s : AS} {c : Int} {n z : Str} (h : chkO s c n = some z) : Rsn z := by
  unfold chkO at h
  split at h
  · cases h; exact .inr (.inr (.inl rfl))
  · split at h
    · cases h; exact .inr (.inr (.inr (.inl rfl)))
    · cases h
theorem chkF_rsn {s : AS} {n z : Str} {a : Int} (h : chkF s n a = some z) : Rsn z := by
  unfold chkF at h
  split at h
  · cases h
  · split at h
    · cases h; exact .inr (.inr (.inr (.inr (.inr (.inr (.inr rfl))))))
    · cases h
theorem chkP_rsn {s : AS} {c : Int} {x y z : Str} {a : Int} (h : chkP s c x y a = some z) : Rsn z := by
  unfold chkP at h
  split at h
  · rename_i z' e; cases h; exact chk_rsn e
  · split at h
    · rename_i z' e; cases h; exact chkO_rsn e
    · exact chkF_rsn h
theorem acOp_rsn {s : AS} {o : OpA} {z : Str} (e : acOp s o = .inl z) : Rsn z := by
  unfold acOp at e
  split at e
  · unfold opCreate at e
    split at e
    · cases e; exact .inl rfl
    · split at e
      · cases e; exact .inr (.inl rfl)
      · cases e
  · split at e
    · unfold opClose at e
      split at e
      · rename_i z' e'; cases e; exact chkO_rsn e'
      · split at e
        · cases e; exact .inr (.inr (.inl rfl))
        · split at e
          · cases e; exact .inr (.inr (.inr (.inr (.inl rfl))))
          · cases e
    · split at e
      · unfold opIssue at e
        split at e
        · cases e; exact .inr (.inr (.inr (.inr (.inr (.inl rfl)))))
        · split at e
          · rename_i z' e'; cases e; exact chk_rsn e'
          · split at e
            · cases e; exact .inr (.inr (.inr (.inr (.inr (.inr (.inl rfl))))))
            · cases e
      · split at e
        · unfold opBurn at e
          split at e
          · rename_i z' e'; cases e; exact chkO_rsn e'
          · split at e
            · rename_i z' e'; cases e; exact chkF_rsn e'
            · cases e
        · split at e
          · unfold opPay at e
            split at e
            · rename_i z' e'; cases e; exact chkP_rsn e'
            · cases e
          · split at e
            · unfold opHold at e
              split at e
              · rename_i z' e'; cases e; exact chkP_rsn e'
              · split at e
                · cases e; exact .inl rfl
                · split at e
                  · cases e; exact .inr (.inl rfl)
                  · cases e
            · split at e
              · unfold opSettle at e
                split at e
                · cases e; exact .inr (.inr (.inl rfl))
                · split at e
                  · rename_i z' e'; cases e; exact chkO_rsn e'
                  · cases e
              · unfold opRelease at e
                split at e
                · cases e; exact .inr (.inr (.inl rfl))
                · split at e
                  · rename_i z' e'; cases e; exact chkO_rsn e'
                  · cases e

/-! ### the law's functions -/
def spWord : Sp := fun vs H Q _ => ∃ (n : Nat) (ch : Str) (seed step : Int), vs = [.int n, .str ch, .int seed, .int step] ∧ n ≤ 100 ∧ 0 < ch.length ∧ ch.length ≤ 1000 ∧ ∀ z : Str, z.length = n → (∀ c ∈ z.cps.toList, c ∈ ch.cps.toList) → Q (.str z) H
def spTxt : Sp := fun vs H Q _ => ∃ c : Int, vs = [.int c] ∧ ∀ H' z, Same H H' → Tx z → Q (.str z) H'
def spAmt : Sp := fun vs H Q _ => ∃ c : Int, vs = [.int c] ∧ 0 ≤ c ∧ ∀ r : Int, 0 ≤ r → Q (.int r) H
def spRich : Sp := fun vs H Q _ => ∃ (c k : Int), vs = [.int c, .int k] ∧ 0 ≤ k ∧ k ≤ 100 ∧ ∀ r : Int, 0 ≤ r → Q (.int r) H
def opV (o : OpA) : List V := [.str o.verb, .int o.c, .str o.x, .str o.y, .int o.a, .str o.k]
def spOp : Sp := fun vs H Q _ => ∃ (c k : Int), vs = [.int c, .int k] ∧ 0 ≤ k ∧ k ≤ 100 ∧ ∀ H' t o, Same H H' → H' t = some (.tup (opV o)) → OpAOk o → Q (.ref t) H'
theorem strOk_mem {z : Str} (h : ∀ c ∈ z.cps.toList, c < 0x110000) : PyData.strOk z = true := by
  unfold PyData.strOk
  rw [← Array.all_toList, List.all_eq_true]
  exact fun c m => decide_eq_true (h c m)
section
variable {P : Program} {w : World} {K : PySem.W.Frag} {mg : Str → Option Value} {base : Heap}
theorem c__law_word {C_Accounts : Addr} {C_Refused : Addr} (T : Txt K mg C_Accounts C_Refused) : Cal P w K mg base 1 "_law_word" spWord [] := by
  refine cal T.d__law_word sc__law_word (fun vs H Q E h => ?_) (fun f cdv A' outer s H vs Q E hr h => ?_)
  · obtain ⟨n, ch, seed, step, rfl, _⟩ := h; rfl
  obtain ⟨n, ch, seed, step, rfl, hn, h0, h1, q⟩ := h
  refine ⟨_, (pss_cons (ps_set (i := 4) sc__law_word.nd rfl (Or.inl rfl) pe_str)
      (pss_cons (ps_set (i := 5) sc__law_word.nd rfl (Or.inl rfl) (pe_callTy call_int1 (by rfl) T.z_int (by decide +kernel) (pa_cons (pv 2) pa_nil)))
      (pss_cons (ps_for PassesOwn.never rfl (pi_range1 (by rfl) T.z_range (pa_cons (pv 0) pa_nil)) (pg_name (i := 6) sc__law_word.nd rfl (Or.inl rfl)) (pss_cons (ps_set (i := 4) sc__law_word.nd rfl (Or.inl rfl) (pe_op op_add_str (pv 4) (pe_ix ix_str (pv 1) (pe_op op_mod (pe_callTy call_int1 (by rfl) T.z_int (by decide +kernel) (pa_cons (pe_op op_add (pv 5) (pe_op op_mul (pv 6) (pv 3))) pa_nil)) (pe_callB call_len_str (by rfl) T.z_len (by decide +kernel) (pa_cons (pv 1) pa_nil))) (fun _ _ => rfl))))
      (pss_one (ps_set (i := 5) sc__law_word.nd rfl (Or.inl rfl) (pe_op op_fdiv (pv 5) (pe_callB call_len_str (by rfl) T.z_len (by decide +kernel) (pa_cons (pv 1) pa_nil)))))))
      (pss_one (ps_ret (pv 4)))))), ?_⟩
  walk_at "rds"
  refine for_it walk_range (Pv := fun i σ H' => H' = H ∧ ∃ (z : Str) (r : Int) (y : Option V), σ = [some (.int n), some (.str ch), some (.int seed), some (.int step), some (.str z), some (.int r), y] ∧ z.length = i ∧ ∀ c ∈ z.cps.toList, c ∈ ch.cps.toList) ⟨rfl, _, _, _, rfl, by decide, (fun c m => by cases m)⟩ (fun _ _ _ _ _ => trivial) (fun i x σ H1 H2 hi hp hy => ?_) (fun σ H1 hp => ?_)
  · obtain ⟨rfl, z, r, y, rfl, hz, hc⟩ := hp
    obtain ⟨rfl, rfl⟩ := hy
    have hi' : i < n := by omega
    walk_at "rds"
    obtain ⟨c, hcm, hat⟩ := atI_lt (xs := ch.cps.toList) (i := (r + (0 + (i : Int)) * step) % (ch.length : Int)) (Int.emod_nonneg _ (by omega)) (by rw [len_tl]; exact Int.emod_lt_of_pos _ (by omega))
    refine ⟨ch, _, c, rfl, rfl, sz1000 (by omega), hat, ?_⟩
    refine ⟨z, _, rfl, rfl, ?_, ?_⟩
    · exact sz1000 (by rw [hz]; show i + 1 ≤ 100000; omega)
    walk_at "rds"
    refine ⟨rfl, z ++ ⟨#[c]⟩, _, _, rfl, ?_, ?_⟩
    · rw [Str.length_append, hz]; rfl
    · intro d hd
      rw [app_tl] at hd
      rcases List.mem_append.mp hd with hd | hd
      · exact hc d hd
      · rw [List.mem_singleton.mp hd]; exact hcm
  · obtain ⟨rfl, z, r, y, rfl, hz, hc⟩ := hp
    walk_at "rds"
    exact q z (by omega) hc
theorem c__law_key {C_Accounts : Addr} {C_Refused : Addr} (T : Txt K mg C_Accounts C_Refused) : Cal P w K mg base 2 "_law_key" spTxt [] := by
  have c__law_word := c__law_word (P := P) (w := w) (base := base) T
  refine cal T.d__law_key sc__law_key (fun vs H Q E h => ?_) (fun f cdv A' outer s H vs Q E hr h => ?_)
  · obtain ⟨c, rfl, _⟩ := h; rfl
  obtain ⟨c, rfl, q⟩ := h
  refine ⟨_, (pss_cons (ps_if (pt_cmpR op_lt (pe_op op_mod (pe_callTy call_int1 (by rfl) T.z_int (by decide +kernel) (pa_cons (pv 0) pa_nil)) pe_int) pe_int (nomark _)) (pss_one (ps_ret (pe_ix (kixl (K := K)) (pe_lst (pa_cons pe_str (pa_cons pe_str (pa_cons pe_str pa_nil)))) (pe_op op_mod (pe_op op_fdiv (pv 0) pe_int) pe_int) (fun _ _ => rfl)))) pss_nil)
      (pss_cons (ps_set (i := 1) sc__law_key.nd rfl (Or.inl rfl) (pe_op op_add pe_int (pe_op op_mod (pe_op op_fdiv (pv 0) pe_int) pe_int)))
      (pss_one (ps_ret (pe_c c__law_word hr (by decide) (by rfl) (pa_cons (pv 1) (pa_cons pe_str (pa_cons (pe_op op_fdiv (pv 0) pe_int) (pa_cons pe_int pa_nil))))))))), ?_⟩
  walk_at "rds"
  refine ite2 (fun _ => ?_) (fun _ => ?_)
  · walk_at "rds"
    intro L hL
    walk_at "rds"
    obtain ⟨v, hv, hat⟩ := atI_lt (xs := [V.str "k", .str "k.1", .str "k.22"]) (i := c / 4 % 3) (by omega) (by show c / 4 % 3 < 3; omega)
    refine ⟨L, _, _, v, rfl, rfl, sq upd_same, hat, ?_⟩
    simp only [List.mem_cons, List.not_mem_nil, or_false] at hv
    rcases hv with rfl | rfl | rfl
    · exact q _ _ (same_upd hL) (by unfold Tx; decide +kernel)
    · exact q _ _ (same_upd hL) (by unfold Tx; decide +kernel)
    · exact q _ _ (same_upd hL) (by unfold Tx; decide +kernel)
  · walk_at "rds"
    have hn : ((1 + c / 4 % 20).toNat : Int) = 1 + c / 4 % 20 := Int.toNat_of_nonneg (by omega)
    refine ⟨(1 + c / 4 % 20).toNat, Str.ofString "abcdefghijklmnopqrstuvwxyz0123456789.", c / 80, 0, by rw [hn]; rfl, by omega, by decide +kernel, by decide +kernel, fun z lz mz => ?_⟩
    exact q _ z (Same.refl _) ⟨by omega, strOk_mem fun d m => (by decide +kernel : ∀ c ∈ (Str.ofString "abcdefghijklmnopqrstuvwxyz0123456789.").cps.toList, c < 0x110000) d (mz d m)⟩
theorem c__law_name {C_Accounts : Addr} {C_Refused : Addr} (T : Txt K mg C_Accounts C_Refused) : Cal P w K mg base 2 "_law_name" spTxt [] := by
  have c__law_word := c__law_word (P := P) (w := w) (base := base) T
  refine cal T.d__law_name sc__law_name (fun vs H Q E h => ?_) (fun f cdv A' outer s H vs Q E hr h => ?_)
  · obtain ⟨c, rfl, _⟩ := h; rfl
  obtain ⟨c, rfl, q⟩ := h
  refine ⟨_, (pss_cons (ps_if (pt_cmpR op_lt (pe_op op_mod (pe_callTy call_int1 (by rfl) T.z_int (by decide +kernel) (pa_cons (pv 0) pa_nil)) pe_int) pe_int (nomark _)) (pss_one (ps_ret (pe_ix (kixl (K := K)) (pe_lst (pa_cons pe_str (pa_cons pe_str (pa_cons pe_str pa_nil)))) (pe_op op_mod (pe_op op_fdiv (pv 0) pe_int) pe_int) (fun _ _ => rfl)))) pss_nil)
      (pss_cons (ps_set (i := 1) sc__law_name.nd rfl (Or.inl rfl) (pe_op op_add pe_int (pe_op op_mod (pe_op op_fdiv (pv 0) pe_int) pe_int)))
      (pss_one (ps_ret (pe_c c__law_word hr (by decide) (by rfl) (pa_cons (pv 1) (pa_cons pe_str (pa_cons (pe_op op_fdiv (pv 0) pe_int) (pa_cons pe_int pa_nil))))))))), ?_⟩
  walk_at "rds"
  refine ite2 (fun _ => ?_) (fun _ => ?_)
  · walk_at "rds"
    intro L hL
    walk_at "rds"
    obtain ⟨v, hv, hat⟩ := atI_lt (xs := [V.str "ann", .str "bob", .str "eve"]) (i := c / 4 % 3) (by omega) (by show c / 4 % 3 < 3; omega)
    refine ⟨L, _, _, v, rfl, rfl, sq upd_same, hat, ?_⟩
    simp only [List.mem_cons, List.not_mem_nil, or_false] at hv
    rcases hv with rfl | rfl | rfl
    · exact q _ _ (same_upd hL) (by unfold Tx; decide +kernel)
    · exact q _ _ (same_upd hL) (by unfold Tx; decide +kernel)
    · exact q _ _ (same_upd hL) (by unfold Tx; decide +kernel)
  · walk_at "rds"
    have hn : ((1 + c / 4 % 12).toNat : Int) = 1 + c / 4 % 12 := Int.toNat_of_nonneg (by omega)
    refine ⟨(1 + c / 4 % 12).toNat, Str.ofString "abcdefghijklmnopqrstuvwxyz", c / 48, 0, by rw [hn]; rfl, by omega, by decide +kernel, by decide +kernel, fun z lz mz => ?_⟩
    exact q _ z (Same.refl _) ⟨by omega, strOk_mem fun d m => (by decide +kernel : ∀ c ∈ (Str.ofString "abcdefghijklmnopqrstuvwxyz").cps.toList, c < 0x110000) d (mz d m)⟩
theorem c__law_amount {C_Accounts : Addr} {C_Refused : Addr} (T : Txt K mg C_Accounts C_Refused) : Cal P w K mg base 1 "_law_amount" spAmt [] := by
  refine cal T.d__law_amount sc__law_amount (fun vs H Q E h => ?_) (fun f cdv A' outer s H vs Q E hr h => ?_)
  · obtain ⟨c, rfl, _⟩ := h; rfl
  obtain ⟨c, rfl, h0, q⟩ := h
  refine ⟨_, (pss_cons (ps_if (pt_cmpR op_lt (pe_op op_mod (pe_callTy call_int1 (by rfl) T.z_int (by decide +kernel) (pa_cons (pv 0) pa_nil)) pe_int) pe_int (nomark _)) (pss_one (ps_ret (pe_op op_mod (pe_op op_fdiv (pv 0) pe_int) pe_int))) pss_nil)
      (pss_cons (ps_if (pt_cmpR op_eq (pe_op op_mod (pe_op op_fdiv (pv 0) pe_int) pe_int) pe_int (nomark _)) (pss_one (ps_ret (pe_op op_sub (pe_op op_sub (pe_op op_pow pe_int pe_int) pe_int) (pe_op op_mod (pe_op op_fdiv (pv 0) pe_int) pe_int)))) pss_nil)
      (pss_one (ps_ret (pe_op op_mod (pe_op op_fdiv (pv 0) pe_int) (pe_op op_pow pe_int pe_int)))))), ?_⟩
  walk_at "rds"
  refine ite2 (fun _ => ?_) (fun _ => ?_)
  · walk_at "rds"
    exact q _ (by show 0 ≤ c / 4 % 9; omega)
  · walk_at "rds"
    refine ite2 (fun _ => ?_) (fun _ => ?_)
    · walk_at "rds"
      exact q _ (by
        show (0 : Int) ≤ 10 ^ Int.toNat 12 - 1 - c / 32 % 3
        have : (10 : Int) ^ Int.toNat 12 = 1000000000000 := by decide +kernel
        omega)
    · walk_at "rds"
      refine ⟨(by show (0 : Int) < 10 ^ Int.toNat 12; decide +kernel), ?_⟩
      exact q _ (Int.emod_nonneg _ (by decide +kernel))
theorem c__law_rich {C_Accounts : Addr} {C_Refused : Addr} (T : Txt K mg C_Accounts C_Refused) : Cal P w K mg base 1 "_law_rich" spRich [] := by
  refine cal T.d__law_rich sc__law_rich (fun vs H Q E h => ?_) (fun f cdv A' outer s H vs Q E hr h => ?_)
  · obtain ⟨c, k, rfl, _⟩ := h; rfl
  obtain ⟨c, k, rfl, hk0, hk1, q⟩ := h
  refine ⟨_, (pss_cons (ps_if (pt_cmpR op_ge (pv 0) (pe_op op_pow pe_int pe_int) (nomark _)) (pss_one (ps_ret (pe_callTy call_int1 (by rfl) T.z_int (by decide +kernel) (pa_cons (pv 0) pa_nil)))) pss_nil)
      (pss_cons (ps_set (i := 2) sc__law_rich.nd rfl (Or.inl rfl) (pe_op op_mod (pe_callTy call_int1 (by rfl) T.z_int (by decide +kernel) (pa_cons (pe_op op_add (pe_op op_add (pe_op op_mul (pv 0) pe_int) (pe_op op_mul (pv 1) pe_int)) pe_int) pa_nil)) pe_int))
      (pss_one (ps_ret (pe_op op_add (pe_op op_mul (pv 2) pe_int) (pe_op op_mod (pe_callTy call_int1 (by rfl) T.z_int (by decide +kernel) (pa_cons (pe_op op_add (pe_op op_mul (pv 2) pe_int) (pv 0)) pa_nil)) pe_int)))))), ?_⟩
  walk_at "rds"
  refine ite2 (fun hc => ?_) (fun _ => ?_)
  · walk_at "rds"
    exact q _ (by
      have h1 : (10 : Int) ^ Int.toNat 18 ≤ c := of_decide_eq_true hc
      have : (10 : Int) ^ Int.toNat 18 = 1000000000000000000 := by decide +kernel
      omega)
  · walk_at "rds"
    exact q _ (by show (0 : Int) ≤ (c * 48271 + k * 69621 + 11) % 2147483647 * 2147483629 + ((c * 48271 + k * 69621 + 11) % 2147483647 * 16807 + c) % 2147483629; omega)
theorem c__law_op {C_Accounts : Addr} {C_Refused : Addr} (T : Txt K mg C_Accounts C_Refused) : Cal P w K mg base 3 "_law_op" spOp [] := by
  have c__law_key := c__law_key (P := P) (w := w) (base := base) T
  have c__law_name := c__law_name (P := P) (w := w) (base := base) T
  have c__law_amount := c__law_amount (P := P) (w := w) (base := base) T
  have c__law_rich := c__law_rich (P := P) (w := w) (base := base) T
  refine cal T.d__law_op sc__law_op (fun vs H Q E h => ?_) (fun f cdv A' outer s H vs Q E hr h => ?_)
  · obtain ⟨c, k, rfl, _⟩ := h; rfl
  obtain ⟨c, k, rfl, hk0, hk1, q⟩ := h
  refine ⟨_, (pss_cons (ps_set (i := 2) sc__law_op.nd rfl (Or.inl rfl) (pe_c c__law_rich hr (by decide) (by rfl) (pa_cons (pv 0) (pa_cons (pv 1) pa_nil))))
      (pss_cons (ps_set (i := 3) sc__law_op.nd rfl (Or.inl rfl) (pe_op op_fdiv (pv 2) pe_int))
      (pss_cons (ps_set (i := 4) sc__law_op.nd rfl (Or.inl rfl) (pe_op op_fdiv (pv 2) pe_int))
      (pss_cons (ps_set (i := 5) sc__law_op.nd rfl (Or.inl rfl) (pe_op op_fdiv (pv 2) pe_int))
      (pss_cons (ps_set (i := 6) sc__law_op.nd rfl (Or.inl rfl) (pe_ix (kixl (K := K)) (pe_lst (pa_cons pe_str (pa_cons pe_str (pa_cons pe_str (pa_cons pe_str (pa_cons pe_str (pa_cons pe_str (pa_cons pe_str (pa_cons pe_str (pa_cons pe_str (pa_cons pe_str pa_nil))))))))))) (pe_op op_mod (pv 2) pe_int) (fun _ _ => rfl)))
      (pss_cons (ps_set (i := 7) sc__law_op.nd rfl (Or.inl rfl) (pe_c c__law_amount hr (by decide) (by rfl) (pa_cons (pv 5) pa_nil)))
      (pss_cut (ps_if (PW.pt (pw_and (pt_cmpR op_eq (pv 6) pe_str (nomark _)) (pw_and1 (pt_cmpR op_eq (pe_op op_mod (pe_op op_fdiv (pv 5) pe_int) pe_int) pe_int (nomark _))))) (pss_one (ps_set (i := 7) sc__law_op.nd rfl (Or.inl rfl) (pe_op op_sub (pe_op op_pow pe_int pe_int) (pe_op op_mod (pe_op op_fdiv (pv 5) pe_int) pe_int)))) pss_nil)
      (pss_one (ps_ret (pe_tup (pa_cons (pv 6) (pa_cons (pe_op op_sub (pe_un un_neg pe_int) (pe_op op_mod (pe_op op_fdiv (pv 2) pe_int) pe_int)) (pa_cons (pe_c c__law_name hr (by decide) (by rfl) (pa_cons (pv 3) pa_nil)) (pa_cons (pe_c c__law_name hr (by decide) (by rfl) (pa_cons (pv 4) pa_nil)) (pa_cons (pv 7) (pa_cons (pe_c c__law_key hr (by decide) (by rfl) (pa_cons (pe_op op_fdiv (pv 5) pe_int) pa_nil)) pa_nil)))))))))))))))), ?_⟩
  walk_at "rds"
  refine ⟨_, _, rfl, hk0, hk1, fun r r0 => ?_⟩
  walk_at "rds"
  intro L hL
  walk_at "rds"
  obtain ⟨v, hv, hat⟩ := atI_lt (xs := [V.str "create", .str "create", .str "issue", .str "issue", .str "burn", .str "pay", .str "hold", .str "settle", .str "release", .str "close"]) (i := r % 10) (by omega) (by show r % 10 < 10; omega)
  have : ∃ z : Str, v = .str z ∧ (z = "create" ∨ z = "issue" ∨ z = "burn" ∨ z = "pay" ∨ z = "hold" ∨ z = "settle" ∨ z = "release" ∨ z = "close") := by
    simp only [List.mem_cons, List.not_mem_nil, or_false] at hv
    rcases hv with rfl | rfl | rfl | rfl | rfl | rfl | rfl | rfl | rfl | rfl
    · exact ⟨_, rfl, .inl rfl⟩
    · exact ⟨_, rfl, .inl rfl⟩
    · exact ⟨_, rfl, .inr (.inl rfl)⟩
    · exact ⟨_, rfl, .inr (.inl rfl)⟩
    · exact ⟨_, rfl, .inr (.inr (.inl rfl))⟩
    · exact ⟨_, rfl, .inr (.inr (.inr (.inl rfl)))⟩
    · exact ⟨_, rfl, .inr (.inr (.inr (.inr (.inl rfl))))⟩
    · exact ⟨_, rfl, .inr (.inr (.inr (.inr (.inr (.inl rfl)))))⟩
    · exact ⟨_, rfl, .inr (.inr (.inr (.inr (.inr (.inr (.inl rfl))))))⟩
    · exact ⟨_, rfl, .inr (.inr (.inr (.inr (.inr (.inr (.inr rfl))))))⟩
  obtain ⟨vb, rfl, hvb⟩ := this
  refine ⟨L, _, _, _, rfl, rfl, sq upd_same, hat, ?_⟩
  have s1 := same_upd (o := .lst [V.str "create", .str "create", .str "issue", .str "issue", .str "burn", .str "pay", .str "hold", .str "settle", .str "release", .str "close"]) hL
  generalize upd H L (.lst [V.str "create", .str "create", .str "issue", .str "issue", .str "burn", .str "pay", .str "hold", .str "settle", .str "release", .str "close"]) = H1 at s1
  walk_at "rds"
  refine ⟨by show (0 : Int) ≤ r / 5760; omega, fun am am0 => ?_⟩
  refine ⟨fun σ' H' => H' = H1 ∧ ∃ am : Int, 0 ≤ am ∧ σ' = [some (.int c), some (.int k), some (.int r), some (.int (r / 40)), some (.int (r / 480)), some (.int (r / 5760)), some (.str vb), some (.int am)], ?_, ?_⟩
  · walk_at "rds"
    refine ite2 (fun _ => ?_) (fun _ => ?_)
    · walk_at "rds"
      refine ite2 (fun _ => ?_) (fun _ => ?_)
      · walk_at "rds"
        refine ⟨rfl, _, ?_, rfl⟩
        show (0 : Int) ≤ 10 ^ Int.toNat 15 - r / 5760 / 288 % 4
        have : (10 : Int) ^ Int.toNat 15 = 1000000000000000 := by decide +kernel
        omega
      · exact ⟨rfl, am, am0, rfl⟩
    · refine ifF rfl ?_
      exact ⟨rfl, am, am0, rfl⟩
  rintro σ' H' ⟨rfl, am, am0, rfl⟩
  walk_at "rds"
  intro H2 zx s2 tx
  walk_at "rds"
  intro H3 zy s3 ty
  walk_at "rds"
  intro H4 zk s4 tk
  walk_at "rds"
  intro t ht
  exact q _ t ⟨vb, _, zx, zy, am, zk⟩ ((((s1.trans s2).trans s3).trans s4).trans (same_upd ht)) upd_same ⟨hvb, tx, ty, am0, tk⟩
end
def resOp (s : AS) (o : OpA) : Str × AS := match acOp s o with
  | .inl z => (z, s)
  | .inr s' => ("", s')
def spLCall (C : Addr) : Sp := fun vs H Q _ => ∃ (p n b h t : Addr) (he : HE) (s : AS) (o : OpA), vs = [.ref p, .ref t] ∧ AW C H p n b h he s ∧ H t = some (.tup (opV o)) ∧
  ∀ H' he', But [p, n, b, h] H H' → AcAt C H' p n b h (resOp s o).2.ac he' (resOp s o).2.su → hsOf he' = (resOp s o).2.ho → Q (.str (resOp s o).1) H'
section
variable {P : Program} {w : World} {K : PySem.W.Frag} {mg : Str → Option Value} {base : Heap}
theorem c__law_call {C_Accounts : Addr} {C_Refused : Addr} (T : Txt K mg C_Accounts C_Refused) : Cal P w K mg base 8 "_law_call" (spLCall C_Accounts) [] := by
  have m_Accounts__create := m_Accounts__create (P := P) (w := w) (base := base) T
  have m_Accounts__close := m_Accounts__close (P := P) (w := w) (base := base) T
  have m_Accounts__issue := m_Accounts__issue (P := P) (w := w) (base := base) T
  have m_Accounts__burn := m_Accounts__burn (P := P) (w := w) (base := base) T
  have m_Accounts__pay := m_Accounts__pay (P := P) (w := w) (base := base) T
  have m_Accounts__hold := m_Accounts__hold (P := P) (w := w) (base := base) T
  have m_Accounts__settle := m_Accounts__settle (P := P) (w := w) (base := base) T
  have m_Accounts__release := m_Accounts__release (P := P) (w := w) (base := base) T
  refine cal T.d__law_call sc__law_call (fun vs H Q E h => ?_) (fun f cdv A' outer s H vs Q E hr h => ?_)
  · obtain ⟨p, n, b, h, t, he, s, o, rfl, _⟩ := h; rfl
  obtain ⟨p, n, b, h, t, he, s, o, rfl, aw, ht, q⟩ := h
  obtain ⟨dx, g⟩ := aw.at_.ins
  refine ⟨_, (pss_cons (ps_asg (pv 1) (pg_tup (by rfl) (pgs_cons (pg_name (i := 2) sc__law_call.nd rfl (Or.inl rfl)) (pgs_cons (pg_name (i := 3) sc__law_call.nd rfl (Or.inl rfl)) (pgs_cons (pg_name (i := 4) sc__law_call.nd rfl (Or.inl rfl)) (pgs_cons (pg_name (i := 5) sc__law_call.nd rfl (Or.inl rfl)) (pgs_cons (pg_name (i := 6) sc__law_call.nd rfl (Or.inl rfl)) (pgs_cons (pg_name (i := 7) sc__law_call.nd rfl (Or.inl rfl)) pgs_nil))))))))
      (pss_cons (ps_try_as (i := 8) (Wout := fun _ _ _ _ => False) rfl rfl sc__law_call.nd rfl rfl ⟨by rfl, by decide, .inl T.x_Refused.g⟩ takes0 (fun W pn xe tk po => (pss_one (ps_if (pt_cmpR op_eq (pv 2) pe_str (nomark _)) (pss_one (ps_expr (pe_mtX m_Accounts__create hr (by decide) (fun σ => passAt tk σ) (pv 0) (pa_cons (pv 3) (pa_cons (pv 4) pa_nil))))) (pss_one (ps_if (pt_cmpR op_eq (pv 2) pe_str (nomark _)) (pss_one (ps_expr (pe_mtX m_Accounts__close hr (by decide) (fun σ => passAt tk σ) (pv 0) (pa_cons (pv 3) (pa_cons (pv 4) pa_nil))))) (pss_one (ps_if (pt_cmpR op_eq (pv 2) pe_str (nomark _)) (pss_one (ps_expr (pe_mtX m_Accounts__issue hr (by decide) (fun σ => passAt tk σ) (pv 0) (pa_cons (pv 3) (pa_cons (pv 4) (pa_cons (pv 6) pa_nil)))))) (pss_one (ps_if (pt_cmpR op_eq (pv 2) pe_str (nomark _)) (pss_one (ps_expr (pe_mtX m_Accounts__burn hr (by decide) (fun σ => passAt tk σ) (pv 0) (pa_cons (pv 3) (pa_cons (pv 4) (pa_cons (pv 6) pa_nil)))))) (pss_one (ps_if (pt_cmpR op_eq (pv 2) pe_str (nomark _)) (pss_one (ps_expr (pe_mtX m_Accounts__pay hr (by decide) (fun σ => passAt tk σ) (pv 0) (pa_cons (pv 3) (pa_cons (pv 4) (pa_cons (pv 5) (pa_cons (pv 6) pa_nil))))))) (pss_one (ps_if (pt_cmpR op_eq (pv 2) pe_str (nomark _)) (pss_one (ps_expr (pe_mtX m_Accounts__hold hr (by decide) (fun σ => passAt tk σ) (pv 0) (pa_cons (pv 3) (pa_cons (pv 4) (pa_cons (pv 5) (pa_cons (pv 6) (pa_cons (pv 7) pa_nil)))))))) (pss_one (ps_if (pt_cmpR op_eq (pv 2) pe_str (nomark _)) (pss_one (ps_expr (pe_mtX m_Accounts__settle hr (by decide) (fun σ => passAt tk σ) (pv 0) (pa_cons (pv 3) (pa_cons (pv 7) pa_nil))))) (pss_one (ps_expr (pe_mtX m_Accounts__release hr (by decide) (fun σ => passAt tk σ) (pv 0) (pa_cons (pv 3) (pa_cons (pv 7) pa_nil)))))))))))))))))))) (fun a oe cls d pn hz hf => (pss_one (ps_ret (pe_xf T.x_Refused.xf T.xn_Refused_reason hz hf (pv 8))))))
      (pss_one (ps_ret pe_str)))), ?_⟩
  walk_at "rds"
  refine ⟨t, _, rfl, SqT.of ht, rfl, _, _, rfl, _, _, rfl, _, _, rfl, _, _, rfl, _, _, rfl, _, _, rfl, rfl, ?_⟩
  have no : ∀ z H', acOp s o = .inl z → Same H H' → Q (.str z) H' := fun z H' e s1 => by
    have er : resOp s o = (z, s) := by unfold resOp; rw [e]
    rw [er] at q
    exact q _ he (Same.but s1) (aw.at_.on s1) aw.hs
  have yes : ∀ s' H' he', acOp s o = .inr s' → But [p, n, b, h] H H' → AcAt C_Accounts H' p n b h s'.ac he' s'.su → hsOf he' = s'.ho → Q (.str "") H' := fun s' H' he' e bt a eh => by
    have er : resOp s o = (("" : Str), s') := by unfold resOp; rw [e]
    rw [er] at q
    exact q _ he' bt a eh
  walk_at "rds"
  rw [decS]
  by_cases h1 : o.verb = "create"
  · refine ifT (decide_eq_true h1) ?_
    have e0 : acOp s o = opCreate s o.c o.x := by unfold acOp; rw [if_pos h1]
    walk_at "rds"
    refine ⟨p, dx, _, rfl, g, rfl, ?_⟩
    walk_at "rds"
    refine ⟨p, n, b, h, he, s, o.c, o.x, rfl, aw, ?_⟩
    rw [← e0]
    cases hp : acOp s o with
    | inl z =>
      refine fun H' d s1 hd => ⟨true, T.x_Refused.exm T.u_Refused_Refused, fun _ b hb => ?_, fun z => nomatch z⟩
      walk_at "rds"
      refine ⟨rfl, rfl, d, _, _, rfl, hd, rfl, ?_⟩
      exact no z H' hp s1
    | inr s' =>
      refine fun H' he' bt a eh => ?_
      walk_at "rds"
      exact yes s' H' he' hp bt a eh
  refine ifF (decide_eq_false h1) ?_
  walk_at "rds"
  rw [decS]
  by_cases h2 : o.verb = "close"
  · refine ifT (decide_eq_true h2) ?_
    have e0 : acOp s o = opClose s o.c o.x := by unfold acOp; rw [if_neg h1, if_pos h2]
    walk_at "rds"
    refine ⟨p, dx, _, rfl, g, rfl, ?_⟩
    walk_at "rds"
    refine ⟨p, n, b, h, he, s, o.c, o.x, rfl, aw, ?_⟩
    rw [← e0]
    cases hp : acOp s o with
    | inl z =>
      refine fun H' d s1 hd => ⟨true, T.x_Refused.exm T.u_Refused_Refused, fun _ b hb => ?_, fun z => nomatch z⟩
      walk_at "rds"
      refine ⟨rfl, rfl, d, _, _, rfl, hd, rfl, ?_⟩
      exact no z H' hp s1
    | inr s' =>
      refine fun H' he' bt a eh => ?_
      walk_at "rds"
      exact yes s' H' he' hp bt a eh
  refine ifF (decide_eq_false h2) ?_
  walk_at "rds"
  rw [decS]
  by_cases h3 : o.verb = "issue"
  · refine ifT (decide_eq_true h3) ?_
    have e0 : acOp s o = opIssue s o.c o.x o.a := by unfold acOp; rw [if_neg h1, if_neg h2, if_pos h3]
    walk_at "rds"
    refine ⟨p, dx, _, rfl, g, rfl, ?_⟩
    walk_at "rds"
    refine ⟨p, n, b, h, he, s, o.c, o.x, o.a, rfl, aw, ?_⟩
    rw [← e0]
    cases hp : acOp s o with
    | inl z =>
      refine fun H' d s1 hd => ⟨true, T.x_Refused.exm T.u_Refused_Refused, fun _ b hb => ?_, fun z => nomatch z⟩
      walk_at "rds"
      refine ⟨rfl, rfl, d, _, _, rfl, hd, rfl, ?_⟩
      exact no z H' hp s1
    | inr s' =>
      refine fun H' he' bt a eh => ?_
      walk_at "rds"
      exact yes s' H' he' hp bt a eh
  refine ifF (decide_eq_false h3) ?_
  walk_at "rds"
  rw [decS]
  by_cases h4 : o.verb = "burn"
  · refine ifT (decide_eq_true h4) ?_
    have e0 : acOp s o = opBurn s o.c o.x o.a := by unfold acOp; rw [if_neg h1, if_neg h2, if_neg h3, if_pos h4]
    walk_at "rds"
    refine ⟨p, dx, _, rfl, g, rfl, ?_⟩
    walk_at "rds"
    refine ⟨p, n, b, h, he, s, o.c, o.x, o.a, rfl, aw, ?_⟩
    rw [← e0]
    cases hp : acOp s o with
    | inl z =>
      refine fun H' d s1 hd => ⟨true, T.x_Refused.exm T.u_Refused_Refused, fun _ b hb => ?_, fun z => nomatch z⟩
      walk_at "rds"
      refine ⟨rfl, rfl, d, _, _, rfl, hd, rfl, ?_⟩
      exact no z H' hp s1
    | inr s' =>
      refine fun H' he' bt a eh => ?_
      walk_at "rds"
      exact yes s' H' he' hp bt a eh
  refine ifF (decide_eq_false h4) ?_
  walk_at "rds"
  rw [decS]
  by_cases h5 : o.verb = "pay"
  · refine ifT (decide_eq_true h5) ?_
    have e0 : acOp s o = opPay s o.c o.x o.y o.a := by unfold acOp; rw [if_neg h1, if_neg h2, if_neg h3, if_neg h4, if_pos h5]
    walk_at "rds"
    refine ⟨p, dx, _, rfl, g, rfl, ?_⟩
    walk_at "rds"
    refine ⟨p, n, b, h, he, s, o.c, o.x, o.y, o.a, rfl, aw, ?_⟩
    rw [← e0]
    cases hp : acOp s o with
    | inl z =>
      refine fun H' d s1 hd => ⟨true, T.x_Refused.exm T.u_Refused_Refused, fun _ b hb => ?_, fun z => nomatch z⟩
      walk_at "rds"
      refine ⟨rfl, rfl, d, _, _, rfl, hd, rfl, ?_⟩
      exact no z H' hp s1
    | inr s' =>
      refine fun H' he' bt a eh => ?_
      walk_at "rds"
      exact yes s' H' he' hp bt a eh
  refine ifF (decide_eq_false h5) ?_
  walk_at "rds"
  rw [decS]
  by_cases h6 : o.verb = "hold"
  · refine ifT (decide_eq_true h6) ?_
    have e0 : acOp s o = opHold s o.c o.x o.y o.a o.k := by unfold acOp; rw [if_neg h1, if_neg h2, if_neg h3, if_neg h4, if_neg h5, if_pos h6]
    walk_at "rds"
    refine ⟨p, dx, _, rfl, g, rfl, ?_⟩
    walk_at "rds"
    refine ⟨p, n, b, h, he, s, o.c, o.x, o.y, o.a, o.k, rfl, aw, ?_⟩
    rw [← e0]
    cases hp : acOp s o with
    | inl z =>
      refine fun H' d s1 hd => ⟨true, T.x_Refused.exm T.u_Refused_Refused, fun _ b hb => ?_, fun z => nomatch z⟩
      walk_at "rds"
      refine ⟨rfl, rfl, d, _, _, rfl, hd, rfl, ?_⟩
      exact no z H' hp s1
    | inr s' =>
      refine fun H' he' bt a eh => ?_
      walk_at "rds"
      exact yes s' H' he' hp bt a eh
  refine ifF (decide_eq_false h6) ?_
  walk_at "rds"
  rw [decS]
  by_cases h7 : o.verb = "settle"
  · refine ifT (decide_eq_true h7) ?_
    have e0 : acOp s o = opSettle s o.c o.k := by unfold acOp; rw [if_neg h1, if_neg h2, if_neg h3, if_neg h4, if_neg h5, if_neg h6, if_pos h7]
    walk_at "rds"
    refine ⟨p, dx, _, rfl, g, rfl, ?_⟩
    walk_at "rds"
    refine ⟨p, n, b, h, he, s, o.c, o.k, rfl, aw, ?_⟩
    rw [← e0]
    cases hp : acOp s o with
    | inl z =>
      refine fun H' d s1 hd => ⟨true, T.x_Refused.exm T.u_Refused_Refused, fun _ b hb => ?_, fun z => nomatch z⟩
      walk_at "rds"
      refine ⟨rfl, rfl, d, _, _, rfl, hd, rfl, ?_⟩
      exact no z H' hp s1
    | inr s' =>
      refine fun H' he' bt a eh => ?_
      walk_at "rds"
      exact yes s' H' he' hp bt a eh
  refine ifF (decide_eq_false h7) ?_
  walk_at "rds"
  have e0 : acOp s o = opRelease s o.c o.k := by unfold acOp; rw [if_neg h1, if_neg h2, if_neg h3, if_neg h4, if_neg h5, if_neg h6, if_neg h7]
  walk_at "rds"
  refine ⟨p, dx, _, rfl, g, rfl, ?_⟩
  walk_at "rds"
  refine ⟨p, n, b, h, he, s, o.c, o.k, rfl, aw, ?_⟩
  rw [← e0]
  cases hp : acOp s o with
  | inl z =>
    refine fun H' d s1 hd => ⟨true, T.x_Refused.exm T.u_Refused_Refused, fun _ b hb => ?_, fun z => nomatch z⟩
    walk_at "rds"
    refine ⟨rfl, rfl, d, _, _, rfl, hd, rfl, ?_⟩
    exact no z H' hp s1
  | inr s' =>
    refine fun H' he' bt a eh => ?_
    walk_at "rds"
    exact yes s' H' he' hp bt a eh
end

--@SPLIT
/-! ### sums of rows, the law -/
def lastD : PyData → Int
  | .tuple l => match l.getLast? with
    | some (.int i) => i
    | _ => 0
  | _ => 0
def LastOk (d : PyData) : Prop := ∃ pre i, d = .tuple (pre ++ [.int i]) ∧ 0 ≤ i
theorem lastD_at (pre : List PyData) (i : Int) : lastD (.tuple (pre ++ [.int i])) = i := by
  unfold lastD
  simp
def spLSum (K : PySem.W.Frag) : Sp := fun vs H Q _ => ∃ (l : Addr) (xs : List V) (ds : List PyData), vs = [.ref l] ∧ H l = some (.lst xs) ∧ DtAll K H none xs ds ∧ (∀ d ∈ ds, LastOk d) ∧ Q (.int (sumI (ds.map lastD))) H
theorem rowA_last {s : AS} {m : Nat} (h : AInv s m) {k : Str} (mk : k ∈ sortK s.ac) : LastOk (rowA s.ac k) ∧ ∃ x, gA s.ac k = some x ∧ lastD (rowA s.ac k) = x.2 := by
  obtain ⟨x, g, mm⟩ := sortK_get h.ok mk
  have e : rowA s.ac k = .tuple ([.str k, .int x.1] ++ [.int x.2]) := by unfold rowA; rw [g]; rfl
  exact ⟨⟨_, _, e, h.pos _ mm⟩, x, g, by rw [e]; exact lastD_at _ _⟩
theorem rowH_last {s : AS} {m : Nat} (h : AInv s m) {k : Str} (mk : k ∈ sortK s.ho) : LastOk (rowH s.ho k) ∧ ∃ x, gA s.ho k = some x ∧ lastD (rowH s.ho k) = x.2.2 := by
  obtain ⟨x, g, mm⟩ := sortK_get h.okh mk
  have e : rowH s.ho k = .tuple ([.str k, .str x.1, .str x.2.1] ++ [.int x.2.2]) := by unfold rowH; rw [g]; rfl
  exact ⟨⟨_, _, e, h.hpos _ mm⟩, x, g, by rw [e]; exact lastD_at _ _⟩
theorem rows_sum {α : Type} (f : α → Int) (r : Str → PyData) {ks : List (Str × α)} (ok : kOk ks) (h : ∀ k ∈ sortK ks, ∃ x, gA ks k = some x ∧ lastD (r k) = f x) : sumI (((sortK ks).map r).map lastD) = sumF f ks := by
  rw [List.map_map]
  have p : ((sortK ks).map (lastD ∘ r)).Perm ((ks.map (·.1)).map (lastD ∘ r)) := (sortS_perm _).map _
  rw [sumI_perm p, List.map_map]
  unfold sumF
  congr 1
  refine List.map_congr_left fun e me => ?_
  obtain ⟨x, g, l⟩ := h e.1 (sortK_mem.mpr (List.mem_map.mpr ⟨e, me, rfl⟩))
  have g2 := gA_mem ok me
  rw [g] at g2
  cases g2
  exact l
theorem AInv.aw {C : Addr} {H : Hp} {p n b h : Addr} {he : HE} {s : AS} {m : Nat} (i : AInv s m) (hm : m ≤ 1000) (a : AcAt C H p n b h s.ac he s.su) (e : hsOf he = s.ho) : AW C H p n b h he s := ⟨a, e, i.ok, Nat.le_trans i.len hm, Nat.le_trans i.hlen hm, i.src⟩
def spSound (C : Addr) : Sp := fun vs H Q _ => ∃ (p n b h : Addr) (he : HE) (s : AS) (m : Nat), vs = [.ref p, .int s.su] ∧ AW C H p n b h he s ∧ AInv s m ∧ ∀ H', Same H H' → Q (.bl true) H'
theorem atI_last {xs : List V} {v : V} (h : xs[xs.length - 1]? = some v) (l : 0 < xs.length) : atI xs (-1) = some v := by
  unfold atI ixN
  rw [if_neg (by omega), if_pos (by omega)]
  show xs[(-1 + (xs.length : Int)).toNat]? = some v
  rw [show (-1 + (xs.length : Int)).toNat = xs.length - 1 by omega]
  exact h
section
variable {P : Program} {w : World} {K : PySem.W.Frag} {mg : Str → Option Value} {base : Heap}
theorem c__law_sum {C_Accounts : Addr} {C_Refused : Addr} (T : Txt K mg C_Accounts C_Refused) : Cal P w K mg base 1 "_law_sum" (spLSum K) [] := by
  refine cal T.d__law_sum sc__law_sum (fun vs H Q E h => ?_) (fun f cdv A' outer s H vs Q E hr h => ?_)
  · obtain ⟨l, xs, ds, rfl, _⟩ := h; rfl
  obtain ⟨l, xs, ds, rfl, hl, hd, ok, q⟩ := h
  refine ⟨_, (pss_cons (ps_set (i := 1) sc__law_sum.nd rfl (Or.inl rfl) pe_int)
      (pss_cons (ps_for PassesOwn.never rfl (pi_list (pv 0)) (pg_name (i := 2) sc__law_sum.nd rfl (Or.inl rfl)) (pss_cons (ps_set (i := 3) sc__law_sum.nd rfl (Or.inl rfl) (pe_ix (kixt (K := K)) (pv 2) (pe_un un_neg pe_int) (fun _ _ => rfl)))
      (pss_cons (ps_if (PW.pt (pw_or (pt_not (pt_val (pe_callB (kisi (K := K)) (by rfl) T.z_isinstance (by decide +kernel) (pa_cons (pv 3) (pa_cons (pe_bltn (v := .ty "int") (by rfl) T.z_int (by decide +kernel) rfl) pa_nil))))) (pw_or (pt_val (pe_callB (kisi (K := K)) (by rfl) T.z_isinstance (by decide +kernel) (pa_cons (pv 3) (pa_cons (pe_bltn (v := .ty "bool") (by rfl) T.z_bool (by decide +kernel) rfl) pa_nil)))) (pw_or1 (pt_cmpR op_lt (pv 3) pe_int (nomark _)))))) (pss_one (ps_ret (pe_un un_neg pe_int))) pss_nil)
      (pss_one (ps_set (i := 1) sc__law_sum.nd rfl (Or.inl rfl) (pe_op op_add (pv 1) (pv 3)))))))
      (pss_one (ps_ret (pv 1))))), ?_⟩
  walk_at "rds"
  refine ⟨⟨_, sq hl⟩, ?_⟩
  refine for_it (walk_list (K := K) (a := l) (xs := xs)) (Pv := fun i σ' H' => H' = H ∧ ∃ (y2 y3 : Option V), σ' = [some (.ref l), some (.int (sumI ((ds.take i).map lastD))), y2, y3]) ⟨rfl, none, none, rfl⟩ (fun i σ H' _ h => by rw [h.1]; exact sq hl) (fun i x σ' H6 H7 hi hp2 hy => ?_) (fun σ' H6 hp2 => ?_)
  · obtain ⟨rfl, y2, y3, rfl⟩ := hp2
    obtain ⟨rfl, gx⟩ := hy
    obtain ⟨d, gd, hdx⟩ := hd.get gx
    obtain ⟨pre, v, rfl, v0⟩ := ok d (List.mem_of_getElem? gd)
    have tk : ((ds.take (i + 1)).map lastD) = ((ds.take i).map lastD) ++ [v] := by rw [List.take_add_one, gd, List.map_append]; show _ ++ [lastD _] = _; rw [lastD_at]
    cases hdx with
    | tup ha hx =>
      rename_i c ys
      have ly := hx.length
      rw [List.length_append, List.length_singleton] at ly
      obtain ⟨z, gz, dz⟩ := hx.getD (i := pre.length) (d := .int v) (by rw [List.getElem?_append_right (Nat.le_refl _), Nat.sub_self]; rfl)
      cases dz
      walk_at "rds"
      refine ⟨c, _, _, _, rfl, rfl, ha.sq, atI_last (by rw [show ys.length - 1 = pre.length by omega]; exact gz) (by omega), ?_⟩
      walk_at "rds"
      walk_at "isi"
      walk_at "rds"
      walk_at "isi"
      walk_at "rds"
      refine ifF (decide_eq_false (by omega)) ?_
      walk_at "rds"
      have es : sumI ((ds.take (i + 1)).map lastD) = sumI ((ds.take i).map lastD) + v := by
        rw [tk, sumI_app]; show _ + (v + 0) = _; omega
      exact ⟨rfl, _, _, by rw [es]; rfl⟩
  · obtain ⟨rfl, y2, y3, rfl⟩ := hp2
    rw [hd.length, List.take_of_length_le (Nat.le_refl _)]
    walk_at "rds"
    exact q
theorem c__law_sound {C_Accounts : Addr} {C_Refused : Addr} (T : Txt K mg C_Accounts C_Refused) : Cal P w K mg base 2 "_law_sound" (spSound C_Accounts) [] := by
  have m_Accounts__rows := m_Accounts__rows (P := P) (w := w) (K := K) (base := base) T
  have m_Accounts__held := m_Accounts__held (P := P) (w := w) (K := K) (base := base) T
  have m_Accounts__supply := m_Accounts__supply (P := P) (w := w) (base := base) T
  have c__law_sum := c__law_sum (P := P) (w := w) (K := K) (base := base) T
  refine cal T.d__law_sound sc__law_sound (fun vs H Q E h => ?_) (fun f cdv A' outer s H vs Q E hr h => ?_)
  · obtain ⟨p, n, b, h, he, s, m, rfl, _⟩ := h; rfl
  obtain ⟨p, n, b, h, he, s, m, rfl, aw, iv, q⟩ := h
  obtain ⟨dx, g⟩ := aw.at_.ins
  refine ⟨_, (pss_cons (ps_set (i := 2) sc__law_sound.nd rfl (Or.inl rfl) (pe_mt0 m_Accounts__rows hr (by decide) (pv 0)))
      (pss_cons (ps_set (i := 3) sc__law_sound.nd rfl (Or.inl rfl) (pe_mt0 m_Accounts__held hr (by decide) (pv 0)))
      (pss_cons (ps_if (PW.pt (pw_or (pt_not (pt_val (pe_callB (kisi (K := K)) (by rfl) T.z_isinstance (by decide +kernel) (pa_cons (pv 2) (pa_cons (pe_bltn (v := .ty "list") (by rfl) T.z_list (by decide +kernel) rfl) pa_nil))))) (pw_or1 (pt_not (pt_val (pe_callB (kisi (K := K)) (by rfl) T.z_isinstance (by decide +kernel) (pa_cons (pv 3) (pa_cons (pe_bltn (v := .ty "list") (by rfl) T.z_list (by decide +kernel) rfl) pa_nil)))))))) (pss_one (ps_ret pe_bl)) pss_nil)
      (pss_cons (ps_set (i := 4) sc__law_sound.nd rfl (Or.inl rfl) (pe_c c__law_sum hr (by decide) (by rfl) (pa_cons (pv 2) pa_nil)))
      (pss_cons (ps_set (i := 5) sc__law_sound.nd rfl (Or.inl rfl) (pe_c c__law_sum hr (by decide) (by rfl) (pa_cons (pv 3) pa_nil)))
      (pss_cons (ps_set (i := 6) sc__law_sound.nd rfl (Or.inl rfl) (pe_mt0 m_Accounts__supply hr (by decide) (pv 0)))
      (pss_cons (ps_if (PW.pt (pw_or (pt_cmpR op_lt (pv 4) pe_int (nomark _)) (pw_or (pt_cmpR op_lt (pv 5) pe_int (nomark _)) (pw_or (pt_not (pt_val (pe_callB (kisi (K := K)) (by rfl) T.z_isinstance (by decide +kernel) (pa_cons (pv 6) (pa_cons (pe_bltn (v := .ty "int") (by rfl) T.z_int (by decide +kernel) rfl) pa_nil))))) (pw_or1 (pt_val (pe_callB (kisi (K := K)) (by rfl) T.z_isinstance (by decide +kernel) (pa_cons (pv 6) (pa_cons (pe_bltn (v := .ty "bool") (by rfl) T.z_bool (by decide +kernel) rfl) pa_nil))))))))) (pss_one (ps_ret pe_bl)) pss_nil)
      (pss_one (ps_ret (pe_and (pe_cmpR op_eq (pv 6) (pv 1) (nomark _)) (pe_and (pe_cmpR op_eq (pv 6) (pe_op op_add (pv 4) (pv 5)) (nomark _)) (pe_one (pe_cmpR op_le (pv 6) (pe_op op_pow pe_int pe_int) (nomark _)))))))))))))), ?_⟩
  walk_at "rds"
  refine ⟨p, dx, _, rfl, g, rfl, ?_⟩
  walk_at "rds"
  refine ⟨p, n, b, h, he, s, rfl, aw, iv.sh, fun xs1 H1 r1 s1 f1 e1 d1 => ?_⟩
  have aw1 := aw.on s1
  obtain ⟨dx1, g1⟩ := aw1.at_.ins
  walk_at "rds"
  refine ⟨p, dx1, _, rfl, g1, rfl, ?_⟩
  walk_at "rds"
  refine ⟨p, n, b, h, he, s, rfl, aw1, iv.okh, iv.sh, fun xs2 H2 r2 s2 f2 e2 d2 => ?_⟩
  have aw2 := aw1.on s2
  obtain ⟨dx2, g2⟩ := aw2.at_.ins
  have e1' := s2 _ _ e1
  have d1' := d1.on s2
  walk_at "rds"
  walk_at "isi"
  walk_at "rds"
  walk_at "isi"
  walk_at "rds"
  refine ⟨r1, _, _, rfl, e1', d1', fun d md => by obtain ⟨k, mk, rfl⟩ := List.mem_map.mp md; exact (rowA_last iv mk).1, ?_⟩
  rw [rows_sum (fun x : Int × Int => x.2) _ iv.ok fun k mk => (rowA_last iv mk).2]
  walk_at "rds"
  refine ⟨r2, _, _, rfl, e2, d2, fun d md => by obtain ⟨k, mk, rfl⟩ := List.mem_map.mp md; exact (rowH_last iv mk).1, ?_⟩
  rw [rows_sum (fun x : Str × Str × Int => x.2.2) _ iv.okh fun k mk => (rowH_last iv mk).2]
  walk_at "rds"
  refine ⟨p, dx2, _, rfl, g2, rfl, ?_⟩
  walk_at "rds"
  refine ⟨p, n, b, h, he, s, rfl, aw2, ?_⟩
  have b0 : 0 ≤ sumF (fun x : Int × Int => x.2) s.ac := sumI_nonneg fun x m => by obtain ⟨e, me, rfl⟩ := List.mem_map.mp m; exact iv.pos e me
  have a0 : 0 ≤ sumF (fun x : Str × Str × Int => x.2.2) s.ho := sumI_nonneg fun x m => by obtain ⟨e, me, rfl⟩ := List.mem_map.mp m; exact iv.hpos e me
  have sm : sumF (fun x : Int × Int => x.2) s.ac + sumF (fun x : Str × Str × Int => x.2.2) s.ho = s.su := iv.sum
  have lim := iv.lim
  generalize sumF (fun x : Int × Int => x.2) s.ac = B at b0 sm
  generalize sumF (fun x : Str × Str × Int => x.2.2) s.ho = G at a0 sm
  walk_at "rds"
  refine ifF (decide_eq_false (by omega)) ?_
  walk_at "rds"
  refine ifF (decide_eq_false (by omega)) ?_
  walk_at "rds"
  walk_at "isi"
  walk_at "rds"
  walk_at "isi"
  walk_at "rds"
  refine ifT (decide_eq_true rfl) ?_
  walk_at "rds"
  refine ifT (by rw [decV']; exact decide_eq_true sm.symm) ?_
  walk_at "rds"
  have hl : decide (s.su ≤ 10 ^ Int.toNat 15) = true := decide_eq_true (by
    have : (10 : Int) ^ Int.toNat 15 = 1000000000000000 := by decide +kernel
    omega)
  have q2 := q H2 (s1.trans s2)
  rw [← hl] at q2
  exact q2
end
theorem rowA_ly {s : AS} {m : Nat} (h : AInv s m) {k : Str} (mk : k ∈ sortK s.ac) : Ly 4 (rowA s.ac k) := by
  obtain ⟨x, g, mm⟩ := sortK_get h.ok mk
  have e : rowA s.ac k = .tuple [.str k, .int x.1, .int x.2] := by unfold rowA; rw [g]
  rw [e]
  exact ly_tup (k := 3) (ly_cons (ly_str (h.sh.1 _ mm).2) (ly_cons (ly_int _) (ly_cons (ly_int _) ly_nil)))
theorem rowH_ly {s : AS} {m : Nat} (h : AInv s m) {k : Str} (mk : k ∈ sortK s.ho) : Ly 4 (rowH s.ho k) := by
  obtain ⟨x, g, mm⟩ := sortK_get h.okh mk
  have e : rowH s.ho k = .tuple [.str k, .str x.1, .str x.2.1, .int x.2.2] := by unfold rowH; rw [g]
  rw [e]
  obtain ⟨h1, h2, h3⟩ := h.sh.2 _ mm
  exact ly_tup (k := 3) (ly_cons (ly_str h1.2) (ly_cons (ly_str h2.2) (ly_cons (ly_str h3.2) (ly_cons (ly_int _) ly_nil))))
theorem rowsA_sh {s : AS} {m : Nat} (h : AInv s m) : SeqAt.shaped (.list ((sortK s.ac).map (rowA s.ac))) = true ∧ PyData.eqv (.list ((sortK s.ac).map (rowA s.ac))) (.list ((sortK s.ac).map (rowA s.ac))) = true :=
  shpL (Ly.mono (ly_lst (k := 4) fun d m => by obtain ⟨k, mk, rfl⟩ := List.mem_map.mp m; exact rowA_ly h mk) (by decide))
theorem rowsH_sh {s : AS} {m : Nat} (h : AInv s m) : SeqAt.shaped (.list ((sortK s.ho).map (rowH s.ho))) = true ∧ PyData.eqv (.list ((sortK s.ho).map (rowH s.ho))) (.list ((sortK s.ho).map (rowH s.ho))) = true :=
  shpL (Ly.mono (ly_lst (k := 4) fun d m => by obtain ⟨k, mk, rfl⟩ := List.mem_map.mp m; exact rowH_ly h mk) (by decide))
theorem rowsA_noL (ac : AB) (ys : List Str) : noLs (ys.map (rowA ac)) = true := noLs_all fun d hd => by obtain ⟨z, _, rfl⟩ := List.mem_map.mp hd; exact rowA_noL z
theorem rowsH_noL (ho : HS) (ys : List Str) : noLs (ys.map (rowH ho)) = true := noLs_all fun d hd => by obtain ⟨z, _, rfl⟩ := List.mem_map.mp hd; exact rowH_noL z
theorem AInv.mono {s : AS} {m m' : Nat} (h : AInv s m) (l : m ≤ m') : AInv s m' := { h with len := Nat.le_trans h.len l, hlen := Nat.le_trans h.hlen l }
/-- a list, or a tuple, is none of the four -/
theorem AcAt.not4 {C : Addr} {H : Hp} {p n b h : Addr} {ac : AB} {he : HE} {su : Int} (a : AcAt C H p n b h ac he su) {x : Addr} {o : HO} (e : H x = some o) (h1 : ∀ C' d f, o ≠ .ins C' d f) (h2 : ∀ kv, o ≠ .dK kv) : x ∉ [p, n, b, h] := fun m => by
  obtain ⟨dx, g⟩ := a.ins
  rcases List.mem_cons.mp m with z | m
  · exact ne_of e g (h1 _ _ _) z
  · rcases List.mem_cons.mp m with z | m
    · exact ne_of e a.ow (h2 _) z
    · rcases List.mem_cons.mp m with z | m
      · exact ne_of e a.ba (h2 _) z
      · exact ne_of e a.ho (h2 _) (List.mem_singleton.mp m)
theorem AcAt.tp_but {C : Addr} {H H' : Hp} {p n b h : Addr} {ac : AB} {he : HE} {su : Int} (a : AcAt C H p n b h ac he su) (bt : But [p, n, b, h] H H') : Tp H H' := fun x xs e => bt _ _ (a.not4 e (by intro _ _ _ z; cases z) (by intro _ z; cases z)) e
structure LS (K : PySem.W.Frag) (C : Addr) (H H' : Hp) (p n b h : Addr) (he : HE) (s : AS) (p2 n2 b2 h2 : Addr) (he2 : HE) (s2 : AS) (Kt R G : Addr) (xr xg : List V) : Prop where
  sm : Same H H'
  fr : ∀ x ∈ [p, n, b, h], H x = none
  a1 : AcAt C H' p n b h s.ac he s.su
  hs1 : hsOf he = s.ho
  a2 : AcAt C H' p2 n2 b2 h2 s2.ac he2 s2.su
  hs2 : hsOf he2 = s2.ho
  kt : H' Kt = some (.tup [.ref R, .ref G])
  kr : H' R = some (.lst xr)
  kg : H' G = some (.lst xg)
  dr : DtAll K H' none xr ((sortK s2.ac).map (rowA s2.ac))
  dg : DtAll K H' none xg ((sortK s2.ho).map (rowH s2.ho))
  dis : ∀ x ∈ [p2, n2, b2, h2], x ∉ [p, n, b, h]
theorem LS.on {K : PySem.W.Frag} {C : Addr} {H H' H2 : Hp} {p n b h : Addr} {he : HE} {s : AS} {p2 n2 b2 h2 : Addr} {he2 : HE} {s2 : AS} {Kt R G : Addr} {xr xg : List V} (l : LS K C H H' p n b h he s p2 n2 b2 h2 he2 s2 Kt R G xr xg) (sm : Same H' H2) : LS K C H H2 p n b h he s p2 n2 b2 h2 he2 s2 Kt R G xr xg :=
  { l with sm := l.sm.trans sm, a1 := l.a1.on sm, a2 := l.a2.on sm, kt := sm _ _ l.kt, kr := sm _ _ l.kr, kg := sm _ _ l.kg, dr := l.dr.on sm, dg := l.dg.on sm }
theorem LS.op {K : PySem.W.Frag} {C : Addr} {H H' H2 : Hp} {p n b h : Addr} {he he' : HE} {s s' : AS} {p2 n2 b2 h2 : Addr} {he2 : HE} {s2 : AS} {Kt R G : Addr} {xr xg : List V} (l : LS K C H H' p n b h he s p2 n2 b2 h2 he2 s2 Kt R G xr xg) (bt : But [p, n, b, h] H' H2) (a : AcAt C H2 p n b h s'.ac he' s'.su) (e : hsOf he' = s'.ho) : LS K C H H2 p n b h he' s' p2 n2 b2 h2 he2 s2 Kt R G xr xg := by
  have tp := l.a1.tp_but bt
  have kl : ∀ x xs, H' x = some (.lst xs) → H2 x = some (.lst xs) := fun x xs e => bt _ _ (l.a1.not4 e (by intro _ _ _ z; cases z) (by intro _ z; cases z)) e
  obtain ⟨dx, g⟩ := l.a2.ins
  exact { l with
    sm := fun x o e => bt _ _ (fun m => by rw [l.fr x m] at e; cases e) (l.sm _ _ e)
    a1 := a
    hs1 := e
    a2 := ⟨⟨dx, bt _ _ (l.dis _ (by simp)) g⟩, bt _ _ (l.dis _ (by simp)) l.a2.ow, bt _ _ (l.dis _ (by simp)) l.a2.ba, bt _ _ (l.dis _ (by simp)) l.a2.ho, fun e m => tp _ _ (l.a2.tp e m), l.a2.n1, l.a2.n2, l.a2.n3⟩
    kt := tp _ _ l.kt
    kr := kl _ _ l.kr
    kg := kl _ _ l.kg
    dr := DtAll.keep tp _ _ (rowsA_noL _ _) l.dr
    dg := DtAll.keep tp _ _ (rowsH_noL _ _) l.dg }
section
variable {P : Program} {w : World} {K : PySem.W.Frag} {mg : Str → Option Value} {base : Heap}
theorem ok_law {C_Accounts : Addr} {C_Refused : Addr} {f : Addr} {fd : FuncData} (F : L2.Fun K "law" "law" s_law f fd) (T : Txt K mg C_Accounts C_Refused) : FnOk P w K mg base L2.CX0 10 f fd ["script"] (spLaw K) := by
  have c__law_op := c__law_op (P := P) (w := w) (base := base) T
  have c__law_call := c__law_call (P := P) (w := w) (base := base) T
  have c__law_sound := c__law_sound (P := P) (w := w) (K := K) (base := base) T
  have k_Accounts := k_Accounts (P := P) (w := w) (base := base) T
  have m_Accounts__clone := m_Accounts__clone (P := P) (w := w) (base := base) T
  have m_Accounts__rows := m_Accounts__rows (P := P) (w := w) (K := K) (base := base) T
  have m_Accounts__held := m_Accounts__held (P := P) (w := w) (K := K) (base := base) T
  refine F.ok sc_law (fun vs H Q E h => ?_) (fun cdv A outer s H vs Q E hr h => ?_)
  · obtain ⟨a, ns, rfl, _⟩ := h; rfl
  obtain ⟨a, ns, rfl, hS, hlen, q⟩ := h
  refine ⟨_, (pss_cons (ps_set (i := 1) sc_law.nd rfl (Or.inl rfl) (pe_mk0 k_Accounts hr (by decide) (by rfl)))
      (pss_cons (ps_set (i := 2) sc_law.nd rfl (Or.inl rfl) (pe_mt0 m_Accounts__clone hr (by decide) (pv 1)))
      (pss_cons (ps_set (i := 3) sc_law.nd rfl (Or.inl rfl) (pe_tup (pa_cons (pe_lst pa_nil) (pa_cons (pe_lst pa_nil) pa_nil))))
      (pss_cons (ps_set (i := 4) sc_law.nd rfl (Or.inl rfl) pe_int)
      (pss_cons (ps_for PassesOwn.never rfl (pi_range1 (by rfl) T.z_range (pa_cons (pe_callB (klen (K := K)) (by rfl) T.z_len (by decide +kernel) (pa_cons (pv 0) pa_nil)) pa_nil)) (pg_name (i := 5) sc_law.nd rfl (Or.inl rfl)) (pss_cons (ps_set (i := 6) sc_law.nd rfl (Or.inl rfl) (pe_c c__law_op hr (by decide) (by rfl) (pa_cons (pe_ix (kixl (K := K)) (pv 0) (pv 5) (fun _ _ => rfl)) (pa_cons (pv 5) pa_nil))))
      (pss_cons (ps_set (i := 7) sc_law.nd rfl (Or.inl rfl) (pe_tup (pa_cons (pe_mt0 m_Accounts__rows hr (by decide) (pv 1)) (pa_cons (pe_mt0 m_Accounts__held hr (by decide) (pv 1)) pa_nil))))
      (pss_cons (ps_set (i := 8) sc_law.nd rfl (Or.inl rfl) (pe_c c__law_call hr (by decide) (by rfl) (pa_cons (pv 1) (pa_cons (pv 6) pa_nil))))
      (pss_cons (ps_if (pt_not (pt_val (pe_callB (kisi (K := K)) (by rfl) T.z_isinstance (by decide +kernel) (pa_cons (pv 8) (pa_cons (pe_bltn (v := .ty "str") (by rfl) T.z_str (by decide +kernel) rfl) pa_nil))))) (pss_one (ps_ret pe_bl)) pss_nil)
      (pss_cut (ps_if (PW.pt (pw_and (pt_cmpR op_eq (pv 8) pe_str (nomark _)) (pw_and1 (pt_cmpR op_eq (pe_ix (kixt (K := K)) (pv 6) pe_int (fun _ _ => rfl)) pe_str (nomark _))))) (pss_one (ps_set (i := 4) sc_law.nd rfl (Or.inl rfl) (pe_op op_add (pv 4) (pe_ix (kixt (K := K)) (pv 6) pe_int (fun _ _ => rfl))))) pss_nil)
      (pss_cut (ps_if (PW.pt (pw_and (pt_cmpR op_eq (pv 8) pe_str (nomark _)) (pw_and1 (pt_cmpR op_eq (pe_ix (kixt (K := K)) (pv 6) pe_int (fun _ _ => rfl)) pe_str (nomark _))))) (pss_one (ps_set (i := 4) sc_law.nd rfl (Or.inl rfl) (pe_op op_sub (pv 4) (pe_ix (kixt (K := K)) (pv 6) pe_int (fun _ _ => rfl))))) pss_nil)
      (pss_cons (ps_if (pt_not (pt_val (pe_c c__law_sound hr (by decide) (by rfl) (pa_cons (pv 1) (pa_cons (pv 4) pa_nil))))) (pss_one (ps_ret pe_bl)) pss_nil)
      (pss_cut (ps_if (PW.pt (pw_and (pt_cmpR op_ne (pv 8) pe_str (nomark _)) (pw_and1 (PW.pt (pw_or (pt_cmpR (op_neD hr.units) (pe_mt0 m_Accounts__rows hr (by decide) (pv 1)) (pe_ix (kixt (K := K)) (pv 7) pe_int (fun _ _ => rfl)) (nomark _)) (pw_or1 (pt_cmpR (op_neD hr.units) (pe_mt0 m_Accounts__held hr (by decide) (pv 1)) (pe_ix (kixt (K := K)) (pv 7) pe_int (fun _ _ => rfl)) (nomark _)))))))) (pss_one (ps_ret pe_bl)) pss_nil)
      (pss_cons (ps_if (PW.pt (pw_or (pt_cmpR (op_neD hr.units) (pe_mt0 m_Accounts__rows hr (by decide) (pv 2)) (pe_ix (kixt (K := K)) (pv 3) pe_int (fun _ _ => rfl)) (nomark _)) (pw_or1 (pt_cmpR (op_neD hr.units) (pe_mt0 m_Accounts__held hr (by decide) (pv 2)) (pe_ix (kixt (K := K)) (pv 3) pe_int (fun _ _ => rfl)) (nomark _))))) (pss_one (ps_ret pe_bl)) pss_nil)
      (pss_one (ps_if (pt_cmpR op_eq (pe_op op_mod (pv 5) pe_int) pe_int (nomark _)) (pss_cons (ps_set (i := 2) sc_law.nd rfl (Or.inl rfl) (pe_mt0 m_Accounts__clone hr (by decide) (pv 1)))
      (pss_cons (ps_set (i := 3) sc_law.nd rfl (Or.inl rfl) (pe_tup (pa_cons (pe_callTy call_list_of (by rfl) T.z_list (by decide +kernel) (pa_cons (pe_mt0 m_Accounts__rows hr (by decide) (pv 1)) pa_nil)) (pa_cons (pe_callTy call_list_of (by rfl) T.z_list (by decide +kernel) (pa_cons (pe_mt0 m_Accounts__held hr (by decide) (pv 1)) pa_nil)) pa_nil))))
      (pss_one (ps_if (pt_not (pt_val (pe_c c__law_sound hr (by decide) (by rfl) (pa_cons (pv 2) (pa_cons (pv 4) pa_nil))))) (pss_one (ps_ret pe_bl)) pss_nil)))) pss_nil))))))))))))
      (pss_one (ps_ret pe_bl))))))), ?_⟩
  walk_at "rds"
  intro p dx hp hdx hne
  refine ⟨p, dx, rfl, upd_same, fun H1 n b h kp hn hb hh a1 => ⟨rfl, ?_⟩⟩
  have s1 : Same H H1 := Same.made hp hdx kp
  have sMk : Same H (upd (upd H dx (.own p)) p (.ins C_Accounts dx [])) := (same_upd hdx).trans (same_upd (by rw [upd_ne hne.symm]; exact hp))
  have fr : ∀ x ∈ [p, n, b, h], H x = none := fun x m => by
    rcases List.mem_cons.mp m with z | m
    · rw [z]; exact hp
    · rcases List.mem_cons.mp m with z | m
      · rw [z]; exact same_none sMk hn
      · rcases List.mem_cons.mp m with z | m
        · rw [z]; exact same_none sMk hb
        · rw [List.mem_singleton.mp m]; exact same_none sMk hh
  clear kp hn hb hh sMk hp hdx hne
  have iv0 : AInv ⟨[], [], 0⟩ 0 := ⟨List.nodup_nil, List.nodup_nil, Nat.le_refl _, Nat.le_refl _, (fun _ m => nomatch m), (fun _ m => nomatch m), (fun _ m => nomatch m), rfl, by decide, (fun _ m => nomatch m), fun _ m => nomatch m⟩
  obtain ⟨dx1, g1⟩ := a1.ins
  walk_at "rds"
  refine ⟨p, dx1, _, rfl, g1, rfl, ?_⟩
  walk_at "rds"
  refine ⟨p, n, b, h, [], ⟨[], [], 0⟩, rfl, iv0.aw (by decide) a1 rfl, fun H2 p2 n2 b2 h2 s2 fp2 fn2 fb2 fh2 a2 => ?_⟩
  have dis : ∀ x ∈ [p2, n2, b2, h2], x ∉ [p, n, b, h] := by
    have key : ∀ x, H1 x = none → x ∉ [p, n, b, h] := fun x e m => by
      rcases List.mem_cons.mp m with z | m
      · rw [z, g1] at e; cases e
      · rcases List.mem_cons.mp m with z | m
        · rw [z, a1.ow] at e; cases e
        · rcases List.mem_cons.mp m with z | m
          · rw [z, a1.ba] at e; cases e
          · rw [List.mem_singleton.mp m, a1.ho] at e; cases e
    intro x m
    rcases List.mem_cons.mp m with z | m
    · rw [z]; exact key _ fp2
    · rcases List.mem_cons.mp m with z | m
      · rw [z]; exact key _ fn2
      · rcases List.mem_cons.mp m with z | m
        · rw [z]; exact key _ fb2
        · rw [List.mem_singleton.mp m]; exact key _ fh2
  have sH2 := s1.trans s2
  have a1' := a1.on s2
  clear s1 s2 a1 g1 fp2 fn2 fb2 fh2
  walk_at "rds"
  intro R hR
  have u1 := same_upd (o := .lst []) hR
  have eR : upd H2 R (.lst []) R = some (.lst []) := upd_same
  generalize upd H2 R (.lst []) = H3 at u1 eR
  walk_at "rds"
  intro G hG
  have u2 := u1.trans (same_upd (o := .lst []) hG)
  have eR2 := (same_upd (o := .lst []) hG) _ _ eR
  have eG : upd H3 G (.lst []) G = some (.lst []) := upd_same
  generalize upd H3 G (.lst []) = H4 at u2 eR2 eG
  walk_at "rds"
  intro Kt hK
  have u3 := u2.trans (same_upd (o := .tup [.ref R, .ref G]) hK)
  have nilA : (sortK ([] : AB)).map (rowA []) = [] := List.eq_nil_of_length_eq_zero (by rw [List.length_map, sortK_len]; rfl)
  have nilH : (sortK ([] : HS)).map (rowH []) = [] := List.eq_nil_of_length_eq_zero (by rw [List.length_map, sortK_len]; rfl)
  have ls : LS K C_Accounts H (upd H4 Kt (.tup [.ref R, .ref G])) p n b h [] ⟨[], [], 0⟩ p2 n2 b2 h2 [] ⟨[], [], 0⟩ Kt R G [] [] :=
    { sm := sH2.trans u3, fr := fr, a1 := a1'.on u3, hs1 := rfl, a2 := a2.on u3, hs2 := rfl, kt := upd_same, kr := (same_upd hK) _ _ eR2, kg := (same_upd hK) _ _ eG
      dr := by rw [nilA]; exact .nil
      dg := by rw [nilH]; exact .nil
      dis := dis }
  generalize upd H4 Kt (.tup [V.ref R, .ref G]) = H5 at ls
  clear u1 u2 u3 eR eR2 eG a2 a1' sH2 dis
  walk_at "rds"
  refine ⟨a, _, rfl, .inl (ls.sm.seq hS), ?_⟩
  rw [List.length_map]
  walk_at "rds"
  refine for_it walk_range (Pv := fun i σ' H' => ∃ he s p2 n2 b2 h2 he2 s2 Kt R G xr xg y5 y6 y7 y8, σ' = [some (.ref a), some (.ref p), some (.ref p2), some (.ref Kt), some (.int s.su), y5, y6, y7, y8] ∧ LS K C_Accounts H H' p n b h he s p2 n2 b2 h2 he2 s2 Kt R G xr xg ∧ AInv s i ∧ AInv s2 i) ⟨_, _, _, _, _, _, _, _, _, _, _, _, _, none, none, none, none, rfl, ls, iv0, iv0⟩ (fun _ _ _ _ _ => trivial) (fun i x σ' Ha Hb hi hp' hy => ?_) (fun σ' Ha hp' => ?_)
  · clear ls iv0
    obtain ⟨he, s, p2, n2, b2, h2, he2, s2, Kt, R, G, xr, xg, y5, y6, y7, y8, rfl, ls, iv, iv2⟩ := hp'
    obtain ⟨rfl, hx⟩ := hy
    obtain rfl : x = V.int (i : Int) := hx.trans (congrArg V.int (Int.zero_add _))
    clear hx
    have hi : i < ns.length := by omega
    have g : (ns.map V.int)[i]? = some (.int ns[i]) := by rw [List.getElem?_map, List.getElem?_eq_getElem hi]; rfl
    generalize ns[i] = ci at g
    walk_at "rds"
    refine ⟨a, _, i, _, rfl, rfl, ls.sm.seq hS, atI_nat g, ?_⟩
    walk_at "rds"
    refine ⟨ci, (i : Int), rfl, by omega, by omega, fun H6 t o s6 et oo => ?_⟩
    have ls := ls.on s6
    obtain ⟨dx6, g6⟩ := ls.a1.ins
    walk_at "rds"
    refine ⟨p, dx6, _, rfl, g6, rfl, ?_⟩
    walk_at "rds"
    refine ⟨p, n, b, h, he, s, rfl, iv.aw (by omega) ls.a1 ls.hs1, iv.sh, fun xs1 H7 r1 s7 f7 e7 d7 => ?_⟩
    have ls := ls.on s7
    obtain ⟨dx7, g7⟩ := ls.a1.ins
    walk_at "rds"
    refine ⟨p, dx7, _, rfl, g7, rfl, ?_⟩
    walk_at "rds"
    refine ⟨p, n, b, h, he, s, rfl, iv.aw (by omega) ls.a1 ls.hs1, iv.okh, iv.sh, fun xs2 H8 r2 s8 f8 e8 d8 => ?_⟩
    have ls := ls.on s8
    walk_at "rds"
    intro Bt hB
    have u9 := same_upd (o := .tup [.ref r1, .ref r2]) hB
    have eB : upd H8 Bt (.tup [.ref r1, .ref r2]) Bt = some (.tup [.ref r1, .ref r2]) := upd_same
    have ls := ls.on u9
    have e7 := u9 _ _ (s8 _ _ e7)
    have d7 := (d7.on s8).on u9
    have e8 := u9 _ _ e8
    have d8 := d8.on u9
    have et := u9 _ _ (s8 _ _ (s7 _ _ et))
    generalize upd H8 Bt (.tup [V.ref r1, .ref r2]) = H9 at eB ls e7 d7 e8 d8 et
    clear s6 s7 s8 u9 f7 f8 hB g6 g7
    walk_at "rds"
    refine ⟨p, n, b, h, t, he, s, o, rfl, iv.aw (by omega) ls.a1 ls.hs1, et, fun H10 he' bt a10 ehs => ?_⟩
    have tp := ls.a1.tp_but bt
    have kl : ∀ x xs, H9 x = some (.lst xs) → H10 x = some (.lst xs) := fun x xs e => bt _ _ (ls.a1.not4 e (by intro _ _ _ z; cases z) (by intro _ z; cases z)) e
    have eB := tp _ _ eB
    have et := tp _ _ et
    have e7 := kl _ _ e7
    have e8 := kl _ _ e8
    have d7 : DtAll K H10 none xs1 ((sortK s.ac).map (rowA s.ac)) := DtAll.keep tp _ _ (rowsA_noL _ _) d7
    have d8 : DtAll K H10 none xs2 ((sortK s.ho).map (rowH s.ho)) := DtAll.keep tp _ _ (rowsH_noL _ _) d8
    have ls := ls.op bt a10 ehs
    clear tp kl bt a10 ehs
    have iv' : AInv (resOp s o).2 (i + 1) := by
      unfold resOp
      cases er : acOp s o with
      | inl z => exact iv.mono (Nat.le_succ _)
      | inr s' => exact (iv.op oo er).1
    have same : (resOp s o).1 ≠ "" → (resOp s o).2 = s := by
      unfold resOp
      cases er : acOp s o with
      | inl z => exact fun _ => rfl
      | inr s' => exact fun z => absurd rfl z
    have sup : (resOp s o).2.su = s.su + (if (resOp s o).1 = "" then dSup o else 0) := by
      unfold resOp
      cases er : acOp s o with
      | inl z => rw [if_neg (acOp_rsn er).ne]; show s.su = _; omega
      | inr s' => rw [if_pos rfl]; exact (iv.op oo er).2
    generalize (resOp s o).1 = z at same sup
    generalize (resOp s o).2 = s' at ls iv' same sup
    walk_at "rds"
    walk_at "isi"
    walk_at "rds"
    refine ifF rfl ?_
    refine ⟨fun σ' H' => H' = H10 ∧ ∃ d1 : Int, d1 = s.su + (if z = "" ∧ o.verb = "issue" then o.a else 0) ∧ σ' = [some (.ref a), some (.ref p), some (.ref p2), some (.ref Kt), some (.int d1), some (.int i), some (.ref t), some (.ref Bt), some (.str z)], ?_, ?_⟩
    · walk_at "rds"
      rw [decS]
      by_cases hz : z = ""
      · refine ifT (decide_eq_true hz) ?_
        walk_at "rds"
        refine ⟨t, _, 0, _, rfl, rfl, SqT.of et, atI_nat (j := 0) rfl, ?_⟩
        walk_at "rds"
        rw [decS]
        by_cases hv : o.verb = "issue"
        · refine ifT (decide_eq_true hv) ?_
          walk_at "rds"
          refine ⟨t, _, 4, _, rfl, rfl, SqT.of et, atI_nat (j := 4) rfl, ?_⟩
          walk_at "rds"
          exact ⟨rfl, _, by rw [if_pos ⟨hz, hv⟩], rfl⟩
        · refine ifF (decide_eq_false hv) ?_
          exact ⟨rfl, s.su, by rw [if_neg (fun y => hv y.2)]; omega, rfl⟩
      · refine ifF (decide_eq_false hz) ?_
        refine ifF rfl ?_
        exact ⟨rfl, s.su, by rw [if_neg (fun y => hz y.1)]; omega, rfl⟩
    rintro σ' H' ⟨rfl, d1, e1, rfl⟩
    refine ⟨fun σ' H2 => H2 = H' ∧ σ' = [some (.ref a), some (.ref p), some (.ref p2), some (.ref Kt), some (.int s'.su), some (.int i), some (.ref t), some (.ref Bt), some (.str z)], ?_, ?_⟩
    · walk_at "rds"
      rw [decS]
      by_cases hz : z = ""
      · refine ifT (decide_eq_true hz) ?_
        rw [if_pos hz] at sup
        walk_at "rds"
        refine ⟨t, _, 0, _, rfl, rfl, SqT.of et, atI_nat (j := 0) rfl, ?_⟩
        walk_at "rds"
        rw [decS]
        by_cases hv : o.verb = "burn"
        · refine ifT (decide_eq_true hv) ?_
          walk_at "rds"
          refine ⟨t, _, 4, _, rfl, rfl, SqT.of et, atI_nat (j := 4) rfl, ?_⟩
          walk_at "rds"
          have ed : s'.su = d1 - o.a := by
            rw [sup, e1, if_neg (fun y => by rw [hv] at y; exact absurd y.2 (by decide))]
            unfold dSup
            rw [if_neg (by rw [hv]; decide), if_pos hv]
            omega
          exact ⟨rfl, by rw [ed]; rfl⟩
        · refine ifF (decide_eq_false hv) ?_
          have ed : s'.su = d1 := by
            rw [sup, e1]
            unfold dSup
            by_cases hi : o.verb = "issue"
            · rw [if_pos hi, if_pos ⟨hz, hi⟩]
            · rw [if_neg hi, if_neg hv, if_neg (fun y => hi y.2)]
          exact ⟨rfl, by rw [ed]⟩
      · refine ifF (decide_eq_false hz) ?_
        refine ifF rfl ?_
        have ed : s'.su = d1 := by rw [sup, e1, if_neg hz, if_neg (fun y => hz y.1)]
        exact ⟨rfl, by rw [ed]⟩
    rintro σ' H2 ⟨rfl, rfl⟩
    clear e1 sup
    walk_at "rds"
    refine ⟨p, n, b, h, he', s', i + 1, rfl, iv'.aw (by omega) ls.a1 ls.hs1, iv', fun H11 s11 => ?_⟩
    have ls := ls.on s11
    have eB := s11 _ _ eB
    have e7 := s11 _ _ e7
    have e8 := s11 _ _ e8
    have d7 := d7.on s11
    have d8 := d8.on s11
    walk_at "rds"
    refine ⟨fun σ' H' => Same H11 H' ∧ σ' = [some (.ref a), some (.ref p), some (.ref p2), some (.ref Kt), some (.int s'.su), some (.int i), some (.ref t), some (.ref Bt), some (.str z)], ?_, ?_⟩
    · walk_at "rds"
      rw [decS]
      by_cases hz : z = ""
      · refine ifF (by rw [decide_eq_true hz]; rfl) ?_
        refine ifF rfl ?_
        exact ⟨Same.refl _, rfl⟩
      · have lsN := ls
        have eBN := eB
        have e7N := e7
        have e8N := e8
        have d7N := d7
        have d8N := d8
        have ivN := iv
        obtain rfl := same hz
        have ls := lsN
        have eB := eBN
        have e7 := e7N
        have e8 := e8N
        have d7 := d7N
        have d8 := d8N
        have iv := ivN
        refine ifT (by rw [decide_eq_false hz]; rfl) ?_
        obtain ⟨dx1, g1⟩ := ls.a1.ins
        obtain ⟨shA1, shA2⟩ := rowsA_sh iv
        obtain ⟨shH1, shH2⟩ := rowsH_sh iv
        walk_at "rds"
        refine ⟨p, dx1, _, rfl, g1, rfl, ?_⟩
        walk_at "rds"
        refine ⟨p, n, b, h, he', s', rfl, iv.aw (by omega) ls.a1 ls.hs1, iv.sh, fun ys1 H12 q1 s12 f12 e12 d12 => ?_⟩
        walk_at "rds"
        refine ⟨Bt, _, 0, _, rfl, rfl, SqT.of (s12 _ _ eB), atI_nat (j := 0) rfl, ?_⟩
        refine ⟨_, _, .lst (.of e12) (DtAll.dp _ _ d12), .lst (.of (s12 _ _ e7)) (DtAll.dp _ _ (d7.on s12)), shA1, shA1, ?_⟩
        rw [shA2]
        refine ⟨_, rfl, ?_⟩
        refine ifF rfl ?_
        have ls := ls.on s12
        obtain ⟨dx2, g2⟩ := ls.a1.ins
        walk_at "rds"
        refine ⟨p, dx2, _, rfl, g2, rfl, ?_⟩
        walk_at "rds"
        refine ⟨p, n, b, h, he', s', rfl, iv.aw (by omega) ls.a1 ls.hs1, iv.okh, iv.sh, fun ys2 H13 q2 s13 f13 e13 d13 => ?_⟩
        walk_at "rds"
        have s123 := s12.trans s13
        refine ⟨Bt, _, 1, _, rfl, rfl, SqT.of (s123 _ _ eB), atI_nat (j := 1) rfl, ?_⟩
        refine ⟨_, _, .lst (.of e13) (DtAll.dp _ _ d13), .lst (.of (s123 _ _ e8)) (DtAll.dp _ _ (d8.on s123)), shH1, shH1, ?_⟩
        rw [shH2]
        refine ⟨_, rfl, ?_⟩
        refine ifF rfl ?_
        exact ⟨s123, rfl⟩
    rintro σ' H14 ⟨s14, rfl⟩
    have ls := ls.on s14
    clear same eB e7 e8 d7 d8 s14
    obtain ⟨shA1, shA2⟩ := rowsA_sh iv2
    obtain ⟨shH1, shH2⟩ := rowsH_sh iv2
    obtain ⟨dx1, g1⟩ := ls.a2.ins
    walk_at "rds"
    refine ⟨p2, dx1, _, rfl, g1, rfl, ?_⟩
    walk_at "rds"
    refine ⟨p2, n2, b2, h2, he2, s2, rfl, iv2.aw (by omega) ls.a2 ls.hs2, iv2.sh, fun ys1 H15 q1 s15 f15 e15 d15 => ?_⟩
    have ls := ls.on s15
    walk_at "rds"
    refine ⟨Kt, _, 0, _, rfl, rfl, SqT.of ls.kt, atI_nat (j := 0) rfl, ?_⟩
    refine ⟨_, _, .lst (.of e15) (DtAll.dp _ _ d15), .lst (.of ls.kr) (DtAll.dp _ _ ls.dr), shA1, shA1, ?_⟩
    rw [shA2]
    refine ⟨_, rfl, ?_⟩
    refine ifF rfl ?_
    obtain ⟨dx2, g2⟩ := ls.a2.ins
    walk_at "rds"
    refine ⟨p2, dx2, _, rfl, g2, rfl, ?_⟩
    walk_at "rds"
    refine ⟨p2, n2, b2, h2, he2, s2, rfl, iv2.aw (by omega) ls.a2 ls.hs2, iv2.okh, iv2.sh, fun ys2 H16 q2 s16 f16 e16 d16 => ?_⟩
    have ls := ls.on s16
    walk_at "rds"
    refine ⟨Kt, _, 1, _, rfl, rfl, SqT.of ls.kt, atI_nat (j := 1) rfl, ?_⟩
    refine ⟨_, _, .lst (.of e16) (DtAll.dp _ _ d16), .lst (.of ls.kg) (DtAll.dp _ _ ls.dg), shH1, shH1, ?_⟩
    rw [shH2]
    refine ⟨_, rfl, ?_⟩
    refine ifF rfl ?_
    clear shA1 shA2 shH1 shH2 e15 d15 e16 d16 s15 s16 g1 g2
    walk_at "rds"
    refine ite2 (fun _ => ?_) (fun _ => ?_)
    · obtain ⟨dx3, g3⟩ := ls.a1.ins
      walk_at "rds"
      refine ⟨p, dx3, _, rfl, g3, rfl, ?_⟩
      walk_at "rds"
      refine ⟨p, n, b, h, he', s', rfl, iv'.aw (by omega) ls.a1 ls.hs1, fun H17 p3 n3 b3 h3 s17 fp3 fn3 fb3 fh3 a3 => ?_⟩
      have dis : ∀ x ∈ [p3, n3, b3, h3], x ∉ [p, n, b, h] := by
        have key : ∀ x, H16 x = none → x ∉ [p, n, b, h] := fun x e m => by
          rcases List.mem_cons.mp m with z | m
          · rw [z, g3] at e; cases e
          · rcases List.mem_cons.mp m with z | m
            · rw [z, ls.a1.ow] at e; cases e
            · rcases List.mem_cons.mp m with z | m
              · rw [z, ls.a1.ba] at e; cases e
              · rw [List.mem_singleton.mp m, ls.a1.ho] at e; cases e
        intro x m
        rcases List.mem_cons.mp m with z | m
        · rw [z]; exact key _ fp3
        · rcases List.mem_cons.mp m with z | m
          · rw [z]; exact key _ fn3
          · rcases List.mem_cons.mp m with z | m
            · rw [z]; exact key _ fb3
            · rw [List.mem_singleton.mp m]; exact key _ fh3
      have ls := ls.on s17
      clear fp3 fn3 fb3 fh3 g3
      obtain ⟨dx4, g4⟩ := ls.a1.ins
      walk_at "rds"
      refine ⟨p, dx4, _, rfl, g4, rfl, ?_⟩
      walk_at "rds"
      refine ⟨p, n, b, h, he', s', rfl, iv'.aw (by omega) ls.a1 ls.hs1, iv'.sh, fun zs1 H18 w1 s18 f18 e18 d18 => ?_⟩
      walk_at "rds"
      refine ⟨w1, _, rfl, .inl (sq e18), fun l1 hl1 => ?_⟩
      have u1 := same_upd (o := .lst zs1) hl1
      have el1 : upd H18 l1 (.lst zs1) l1 = some (.lst zs1) := upd_same
      have dl1 := d18.on u1
      have s19 := s18.trans u1
      generalize upd H18 l1 (.lst zs1) = H19 at el1 dl1 s19
      have ls := ls.on s19
      obtain ⟨dx5, g5⟩ := ls.a1.ins
      walk_at "rds"
      refine ⟨p, dx5, _, rfl, g5, rfl, ?_⟩
      walk_at "rds"
      refine ⟨p, n, b, h, he', s', rfl, iv'.aw (by omega) ls.a1 ls.hs1, iv'.okh, iv'.sh, fun zs2 H20 w2 s20 f20 e20 d20 => ?_⟩
      walk_at "rds"
      refine ⟨w2, _, rfl, .inl (sq e20), fun l2 hl2 => ?_⟩
      have u2 := same_upd (o := .lst zs2) hl2
      have el2 : upd H20 l2 (.lst zs2) l2 = some (.lst zs2) := upd_same
      have dl2 := d20.on u2
      have s21 := s20.trans u2
      generalize upd H20 l2 (.lst zs2) = H21 at el2 dl2 s21
      have ls := ls.on s21
      have el1 := s21 _ _ el1
      have dl1 := dl1.on s21
      have a3 := (a3.on s19).on s21
      walk_at "rds"
      intro Kn hKn
      have u3 := same_upd (o := .tup [.ref l1, .ref l2]) hKn
      have eK : upd H21 Kn (.tup [.ref l1, .ref l2]) Kn = some (.tup [.ref l1, .ref l2]) := upd_same
      have ls := ls.on u3
      have el1 := u3 _ _ el1
      have dl1 := dl1.on u3
      have el2 := u3 _ _ el2
      have dl2 := dl2.on u3
      have a3 := a3.on u3
      generalize upd H21 Kn (.tup [V.ref l1, .ref l2]) = H22 at eK ls el1 dl1 el2 dl2 a3
      walk_at "rds"
      refine ⟨p3, n3, b3, h3, he', s', i + 1, rfl, iv'.aw (by omega) a3 ls.hs1, iv', fun H23 s23 => ?_⟩
      walk_at "rds"
      exact ⟨he', s', p3, n3, b3, h3, he', s', Kn, l1, l2, zs1, zs2, _, _, _, _, rfl, { sm := ls.sm.trans s23, fr := ls.fr, a1 := ls.a1.on s23, hs1 := ls.hs1, a2 := a3.on s23, hs2 := ls.hs1, kt := s23 _ _ eK, kr := s23 _ _ el1, kg := s23 _ _ el2, dr := dl1.on s23, dg := dl2.on s23, dis := dis }, iv', iv'⟩
    · exact ⟨he', s', p2, n2, b2, h2, he2, s2, Kt, R, G, xr, xg, _, _, _, _, rfl, ls, iv', iv2.mono (by omega)⟩
  · obtain ⟨he, s, p2, n2, b2, h2, he2, s2, Kt, R, G, xr, xg, y5, y6, y7, y8, rfl, ls, iv, iv2⟩ := hp'
    walk_at "rds"
    exact q _
end

theorem fin {C_Accounts : Addr} {C_Refused : Addr} {P : Program} {w : World} {K : PySem.W.Frag} {mg : Str → Option Value} {fa : Addr} (hfa : mg "law" = some (.ref fa)) (T : Txt K mg C_Accounts C_Refused) :
    ∃ fd : FuncData, (∀ (s : Shared) (u : Value), BindsTo s fd ⟨[u], []⟩ [("script", u)]) ∧ ∀ base : Heap, K.In base → base.Ns mainGlobals mg → FnOk P w K mg base L2.CX0 10 fa fd ["script"] (spLaw K) := by
  obtain ⟨f, fd, F, hm, b⟩ := T.d_law.ex
  cases hfa.symm.trans hm
  refine ⟨fd, fun s u => ?_, fun base _ _ => ok_law F T⟩
  obtain ⟨oc, od, kV, doc, pm, an, cdv, ct, osl, rfl, l, _⟩ := F.ex
  exact .of_eq rfl

theorem all_mk {K : PySem.W.Frag} {h : Heap} {mg : Str → Option Value} (X : K.In h) (G : h.Ns mainGlobals mg)
    {f__law_word : Addr} {od__law_word an__law_word : Option Addr} {sl__law_word : Array (Option Value)} {oc__law_word kV__law_word dc__law_word pm__law_word cd__law_word ct__law_word : Value}
    {f__law_name : Addr} {od__law_name an__law_name : Option Addr} {sl__law_name : Array (Option Value)} {oc__law_name kV__law_name dc__law_name pm__law_name cd__law_name ct__law_name : Value}
    {f__law_key : Addr} {od__law_key an__law_key : Option Addr} {sl__law_key : Array (Option Value)} {oc__law_key kV__law_key dc__law_key pm__law_key cd__law_key ct__law_key : Value}
    {f__law_amount : Addr} {od__law_amount an__law_amount : Option Addr} {sl__law_amount : Array (Option Value)} {oc__law_amount kV__law_amount dc__law_amount pm__law_amount cd__law_amount ct__law_amount : Value}
    {f__law_rich : Addr} {od__law_rich an__law_rich : Option Addr} {sl__law_rich : Array (Option Value)} {oc__law_rich kV__law_rich dc__law_rich pm__law_rich cd__law_rich ct__law_rich : Value}
    {f__law_op : Addr} {od__law_op an__law_op : Option Addr} {sl__law_op : Array (Option Value)} {oc__law_op kV__law_op dc__law_op pm__law_op cd__law_op ct__law_op : Value}
    {f__law_call : Addr} {od__law_call an__law_call : Option Addr} {sl__law_call : Array (Option Value)} {oc__law_call kV__law_call dc__law_call pm__law_call cd__law_call ct__law_call : Value}
    {f__law_sum : Addr} {od__law_sum an__law_sum : Option Addr} {sl__law_sum : Array (Option Value)} {oc__law_sum kV__law_sum dc__law_sum pm__law_sum cd__law_sum ct__law_sum : Value}
    {f__law_sound : Addr} {od__law_sound an__law_sound : Option Addr} {sl__law_sound : Array (Option Value)} {oc__law_sound kV__law_sound dc__law_sound pm__law_sound cd__law_sound ct__law_sound : Value}
    {f_law : Addr} {od_law an_law : Option Addr} {sl_law : Array (Option Value)} {oc_law kV_law dc_law pm_law cd_law ct_law : Value}
    {C_Accounts : Addr}
    {f_Accounts____init__ : Addr} {od_Accounts____init__ an_Accounts____init__ : Option Addr} {sl_Accounts____init__ : Array (Option Value)} {oc_Accounts____init__ kV_Accounts____init__ dc_Accounts____init__ pm_Accounts____init__ cd_Accounts____init__ ct_Accounts____init__ : Value}
    {f_Accounts__create : Addr} {od_Accounts__create an_Accounts__create : Option Addr} {sl_Accounts__create : Array (Option Value)} {oc_Accounts__create kV_Accounts__create dc_Accounts__create pm_Accounts__create cd_Accounts__create ct_Accounts__create : Value}
    {f_Accounts__close : Addr} {od_Accounts__close an_Accounts__close : Option Addr} {sl_Accounts__close : Array (Option Value)} {oc_Accounts__close kV_Accounts__close dc_Accounts__close pm_Accounts__close cd_Accounts__close ct_Accounts__close : Value}
    {f_Accounts__issue : Addr} {od_Accounts__issue an_Accounts__issue : Option Addr} {sl_Accounts__issue : Array (Option Value)} {oc_Accounts__issue kV_Accounts__issue dc_Accounts__issue pm_Accounts__issue cd_Accounts__issue ct_Accounts__issue : Value}
    {f_Accounts__burn : Addr} {od_Accounts__burn an_Accounts__burn : Option Addr} {sl_Accounts__burn : Array (Option Value)} {oc_Accounts__burn kV_Accounts__burn dc_Accounts__burn pm_Accounts__burn cd_Accounts__burn ct_Accounts__burn : Value}
    {f_Accounts__pay : Addr} {od_Accounts__pay an_Accounts__pay : Option Addr} {sl_Accounts__pay : Array (Option Value)} {oc_Accounts__pay kV_Accounts__pay dc_Accounts__pay pm_Accounts__pay cd_Accounts__pay ct_Accounts__pay : Value}
    {f_Accounts__hold : Addr} {od_Accounts__hold an_Accounts__hold : Option Addr} {sl_Accounts__hold : Array (Option Value)} {oc_Accounts__hold kV_Accounts__hold dc_Accounts__hold pm_Accounts__hold cd_Accounts__hold ct_Accounts__hold : Value}
    {f_Accounts__settle : Addr} {od_Accounts__settle an_Accounts__settle : Option Addr} {sl_Accounts__settle : Array (Option Value)} {oc_Accounts__settle kV_Accounts__settle dc_Accounts__settle pm_Accounts__settle cd_Accounts__settle ct_Accounts__settle : Value}
    {f_Accounts__release : Addr} {od_Accounts__release an_Accounts__release : Option Addr} {sl_Accounts__release : Array (Option Value)} {oc_Accounts__release kV_Accounts__release dc_Accounts__release pm_Accounts__release cd_Accounts__release ct_Accounts__release : Value}
    {f_Accounts__balance : Addr} {od_Accounts__balance an_Accounts__balance : Option Addr} {sl_Accounts__balance : Array (Option Value)} {oc_Accounts__balance kV_Accounts__balance dc_Accounts__balance pm_Accounts__balance cd_Accounts__balance ct_Accounts__balance : Value}
    {f_Accounts__owner : Addr} {od_Accounts__owner an_Accounts__owner : Option Addr} {sl_Accounts__owner : Array (Option Value)} {oc_Accounts__owner kV_Accounts__owner dc_Accounts__owner pm_Accounts__owner cd_Accounts__owner ct_Accounts__owner : Value}
    {f_Accounts__supply : Addr} {od_Accounts__supply an_Accounts__supply : Option Addr} {sl_Accounts__supply : Array (Option Value)} {oc_Accounts__supply kV_Accounts__supply dc_Accounts__supply pm_Accounts__supply cd_Accounts__supply ct_Accounts__supply : Value}
    {f_Accounts__rows : Addr} {od_Accounts__rows an_Accounts__rows : Option Addr} {sl_Accounts__rows : Array (Option Value)} {oc_Accounts__rows kV_Accounts__rows dc_Accounts__rows pm_Accounts__rows cd_Accounts__rows ct_Accounts__rows : Value}
    {f_Accounts__held : Addr} {od_Accounts__held an_Accounts__held : Option Addr} {sl_Accounts__held : Array (Option Value)} {oc_Accounts__held kV_Accounts__held dc_Accounts__held pm_Accounts__held cd_Accounts__held ct_Accounts__held : Value}
    {f_Accounts__clone : Addr} {od_Accounts__clone an_Accounts__clone : Option Addr} {sl_Accounts__clone : Array (Option Value)} {oc_Accounts__clone kV_Accounts__clone dc_Accounts__clone pm_Accounts__clone cd_Accounts__clone ct_Accounts__clone : Value}
    {f_Accounts___check : Addr} {od_Accounts___check an_Accounts___check : Option Addr} {sl_Accounts___check : Array (Option Value)} {oc_Accounts___check kV_Accounts___check dc_Accounts___check pm_Accounts___check cd_Accounts___check ct_Accounts___check : Value}
    {f_Accounts___check_owner : Addr} {od_Accounts___check_owner an_Accounts___check_owner : Option Addr} {sl_Accounts___check_owner : Array (Option Value)} {oc_Accounts___check_owner kV_Accounts___check_owner dc_Accounts___check_owner pm_Accounts___check_owner cd_Accounts___check_owner ct_Accounts___check_owner : Value}
    {f_Accounts___check_funds : Addr} {od_Accounts___check_funds an_Accounts___check_funds : Option Addr} {sl_Accounts___check_funds : Array (Option Value)} {oc_Accounts___check_funds kV_Accounts___check_funds dc_Accounts___check_funds pm_Accounts___check_funds cd_Accounts___check_funds ct_Accounts___check_funds : Value}
    {f_Accounts___check_payment : Addr} {od_Accounts___check_payment an_Accounts___check_payment : Option Addr} {sl_Accounts___check_payment : Array (Option Value)} {oc_Accounts___check_payment kV_Accounts___check_payment dc_Accounts___check_payment pm_Accounts___check_payment cd_Accounts___check_payment ct_Accounts___check_payment : Value}
    {f_Accounts___hold_of : Addr} {od_Accounts___hold_of an_Accounts___hold_of : Option Addr} {sl_Accounts___hold_of : Array (Option Value)} {oc_Accounts___hold_of kV_Accounts___hold_of dc_Accounts___hold_of pm_Accounts___hold_of cd_Accounts___hold_of ct_Accounts___hold_of : Value}
    {f_Accounts___is_held : Addr} {od_Accounts___is_held an_Accounts___is_held : Option Addr} {sl_Accounts___is_held : Array (Option Value)} {oc_Accounts___is_held kV_Accounts___is_held dc_Accounts___is_held pm_Accounts___is_held cd_Accounts___is_held ct_Accounts___is_held : Value}
    {C_Refused : Addr} {nm_Refused qn_Refused : Str} {NN_Refused : Addr} {bs_Refused bm_Refused sub_Refused : List Value} {sn_Refused : List Str} {ab_Refused : Bool} {col_Refused : Option Bool} {dd_Refused : Option Addr} {m0_Refused m1_Refused m2_Refused m3_Refused m5_Refused : Option Value}
    {f_Refused____init__ : Addr} {od_Refused____init__ an_Refused____init__ : Option Addr} {sl_Refused____init__ : Array (Option Value)} {oc_Refused____init__ kV_Refused____init__ dc_Refused____init__ pm_Refused____init__ cd_Refused____init__ ct_Refused____init__ : Value}
    {t_ACCOUNT_LIMIT : Tok}
    {t_HOLD_LIMIT : Tok}
    {t_MINT : Tok}
    {t_SUPPLY_LIMIT : Tok}
    (a__law_word : PySem.W.nsIn K mainGlobals "_law_word" = some (some (.ref f__law_word)))
    (l__law_word : K.lookup f__law_word = some ⟨oc__law_word, od__law_word, .func (PySem.W.fnOf "_law_word" "_law_word" (defArgs s__law_word) (defBody s__law_word) (defScope s__law_word) .none kV__law_word dc__law_word pm__law_word an__law_word cd__law_word ct__law_word), sl__law_word⟩)
    (e__law_word : PySem.W.codeIn K cd__law_word "_law_word" = true)
    (k__law_word : PySem.W.keepIn K (.ref f__law_word) = true)
    (a__law_name : PySem.W.nsIn K mainGlobals "_law_name" = some (some (.ref f__law_name)))
    (l__law_name : K.lookup f__law_name = some ⟨oc__law_name, od__law_name, .func (PySem.W.fnOf "_law_name" "_law_name" (defArgs s__law_name) (defBody s__law_name) (defScope s__law_name) .none kV__law_name dc__law_name pm__law_name an__law_name cd__law_name ct__law_name), sl__law_name⟩)
    (e__law_name : PySem.W.codeIn K cd__law_name "_law_name" = true)
    (k__law_name : PySem.W.keepIn K (.ref f__law_name) = true)
    (a__law_key : PySem.W.nsIn K mainGlobals "_law_key" = some (some (.ref f__law_key)))
    (l__law_key : K.lookup f__law_key = some ⟨oc__law_key, od__law_key, .func (PySem.W.fnOf "_law_key" "_law_key" (defArgs s__law_key) (defBody s__law_key) (defScope s__law_key) .none kV__law_key dc__law_key pm__law_key an__law_key cd__law_key ct__law_key), sl__law_key⟩)
    (e__law_key : PySem.W.codeIn K cd__law_key "_law_key" = true)
    (k__law_key : PySem.W.keepIn K (.ref f__law_key) = true)
    (a__law_amount : PySem.W.nsIn K mainGlobals "_law_amount" = some (some (.ref f__law_amount)))
    (l__law_amount : K.lookup f__law_amount = some ⟨oc__law_amount, od__law_amount, .func (PySem.W.fnOf "_law_amount" "_law_amount" (defArgs s__law_amount) (defBody s__law_amount) (defScope s__law_amount) .none kV__law_amount dc__law_amount pm__law_amount an__law_amount cd__law_amount ct__law_amount), sl__law_amount⟩)
    (e__law_amount : PySem.W.codeIn K cd__law_amount "_law_amount" = true)
    (k__law_amount : PySem.W.keepIn K (.ref f__law_amount) = true)
    (a__law_rich : PySem.W.nsIn K mainGlobals "_law_rich" = some (some (.ref f__law_rich)))
    (l__law_rich : K.lookup f__law_rich = some ⟨oc__law_rich, od__law_rich, .func (PySem.W.fnOf "_law_rich" "_law_rich" (defArgs s__law_rich) (defBody s__law_rich) (defScope s__law_rich) .none kV__law_rich dc__law_rich pm__law_rich an__law_rich cd__law_rich ct__law_rich), sl__law_rich⟩)
    (e__law_rich : PySem.W.codeIn K cd__law_rich "_law_rich" = true)
    (k__law_rich : PySem.W.keepIn K (.ref f__law_rich) = true)
    (a__law_op : PySem.W.nsIn K mainGlobals "_law_op" = some (some (.ref f__law_op)))
    (l__law_op : K.lookup f__law_op = some ⟨oc__law_op, od__law_op, .func (PySem.W.fnOf "_law_op" "_law_op" (defArgs s__law_op) (defBody s__law_op) (defScope s__law_op) .none kV__law_op dc__law_op pm__law_op an__law_op cd__law_op ct__law_op), sl__law_op⟩)
    (e__law_op : PySem.W.codeIn K cd__law_op "_law_op" = true)
    (k__law_op : PySem.W.keepIn K (.ref f__law_op) = true)
    (a__law_call : PySem.W.nsIn K mainGlobals "_law_call" = some (some (.ref f__law_call)))
    (l__law_call : K.lookup f__law_call = some ⟨oc__law_call, od__law_call, .func (PySem.W.fnOf "_law_call" "_law_call" (defArgs s__law_call) (defBody s__law_call) (defScope s__law_call) .none kV__law_call dc__law_call pm__law_call an__law_call cd__law_call ct__law_call), sl__law_call⟩)
    (e__law_call : PySem.W.codeIn K cd__law_call "_law_call" = true)
    (k__law_call : PySem.W.keepIn K (.ref f__law_call) = true)
    (a__law_sum : PySem.W.nsIn K mainGlobals "_law_sum" = some (some (.ref f__law_sum)))
    (l__law_sum : K.lookup f__law_sum = some ⟨oc__law_sum, od__law_sum, .func (PySem.W.fnOf "_law_sum" "_law_sum" (defArgs s__law_sum) (defBody s__law_sum) (defScope s__law_sum) .none kV__law_sum dc__law_sum pm__law_sum an__law_sum cd__law_sum ct__law_sum), sl__law_sum⟩)
    (e__law_sum : PySem.W.codeIn K cd__law_sum "_law_sum" = true)
    (k__law_sum : PySem.W.keepIn K (.ref f__law_sum) = true)
    (a__law_sound : PySem.W.nsIn K mainGlobals "_law_sound" = some (some (.ref f__law_sound)))
    (l__law_sound : K.lookup f__law_sound = some ⟨oc__law_sound, od__law_sound, .func (PySem.W.fnOf "_law_sound" "_law_sound" (defArgs s__law_sound) (defBody s__law_sound) (defScope s__law_sound) .none kV__law_sound dc__law_sound pm__law_sound an__law_sound cd__law_sound ct__law_sound), sl__law_sound⟩)
    (e__law_sound : PySem.W.codeIn K cd__law_sound "_law_sound" = true)
    (k__law_sound : PySem.W.keepIn K (.ref f__law_sound) = true)
    (a_law : PySem.W.nsIn K mainGlobals "law" = some (some (.ref f_law)))
    (l_law : K.lookup f_law = some ⟨oc_law, od_law, .func (PySem.W.fnOf "law" "law" (defArgs s_law) (defBody s_law) (defScope s_law) .none kV_law dc_law pm_law an_law cd_law ct_law), sl_law⟩)
    (e_law : PySem.W.codeIn K cd_law "law" = true)
    (k_law : PySem.W.keepIn K (.ref f_law) = true)
    (ac_Accounts : PySem.W.nsIn K mainGlobals "Accounts" = some (some (.ref C_Accounts)))
    (pg_Accounts : PySem.W.plainGet K C_Accounts Str.empty = true)
    (hd_Accounts : PySem.W.hasDictIn K C_Accounts = true)
    (po_Accounts : PySem.W.plainOver K C_Accounts = true)
    (sa_Accounts : PySem.W.findIn K (.ref C_Accounts) "__setattr__" = some (some (.builtin "object.__setattr__")))
    (mk_Accounts : PySem.W.makesIn K C_Accounts = true)
    (kc_Accounts : PySem.W.keepIn K (.ref C_Accounts) = true)
    (na_Accounts__owners : PySem.W.findIn K (.ref C_Accounts) "_owners" = some none)
    (na_Accounts__balances : PySem.W.findIn K (.ref C_Accounts) "_balances" = some none)
    (na_Accounts__holds : PySem.W.findIn K (.ref C_Accounts) "_holds" = some none)
    (na_Accounts__supply : PySem.W.findIn K (.ref C_Accounts) "_supply" = some none)
    (a_Accounts____init__ : PySem.W.findIn K (.ref C_Accounts) "__init__" = some (some (.ref f_Accounts____init__)))
    (i_Accounts____init__ : PySem.W.isFn K (.ref f_Accounts____init__) = true)
    (l_Accounts____init__ : K.lookup f_Accounts____init__ = some ⟨oc_Accounts____init__, od_Accounts____init__, .func (PySem.W.fnOf "__init__" "Accounts.__init__" (defArgs s_Accounts____init__) (defBody s_Accounts____init__) (defScope s_Accounts____init__) .none kV_Accounts____init__ dc_Accounts____init__ pm_Accounts____init__ an_Accounts____init__ cd_Accounts____init__ ct_Accounts____init__), sl_Accounts____init__⟩)
    (e_Accounts____init__ : PySem.W.codeIn K cd_Accounts____init__ "Accounts.__init__" = true)
    (k_Accounts____init__ : PySem.W.keepIn K (.ref f_Accounts____init__) = true)
    (a_Accounts__create : PySem.W.findIn K (.ref C_Accounts) "create" = some (some (.ref f_Accounts__create)))
    (i_Accounts__create : PySem.W.isFn K (.ref f_Accounts__create) = true)
    (l_Accounts__create : K.lookup f_Accounts__create = some ⟨oc_Accounts__create, od_Accounts__create, .func (PySem.W.fnOf "create" "Accounts.create" (defArgs s_Accounts__create) (defBody s_Accounts__create) (defScope s_Accounts__create) .none kV_Accounts__create dc_Accounts__create pm_Accounts__create an_Accounts__create cd_Accounts__create ct_Accounts__create), sl_Accounts__create⟩)
    (e_Accounts__create : PySem.W.codeIn K cd_Accounts__create "Accounts.create" = true)
    (k_Accounts__create : PySem.W.keepIn K (.ref f_Accounts__create) = true)
    (a_Accounts__close : PySem.W.findIn K (.ref C_Accounts) "close" = some (some (.ref f_Accounts__close)))
    (i_Accounts__close : PySem.W.isFn K (.ref f_Accounts__close) = true)
    (l_Accounts__close : K.lookup f_Accounts__close = some ⟨oc_Accounts__close, od_Accounts__close, .func (PySem.W.fnOf "close" "Accounts.close" (defArgs s_Accounts__close) (defBody s_Accounts__close) (defScope s_Accounts__close) .none kV_Accounts__close dc_Accounts__close pm_Accounts__close an_Accounts__close cd_Accounts__close ct_Accounts__close), sl_Accounts__close⟩)
    (e_Accounts__close : PySem.W.codeIn K cd_Accounts__close "Accounts.close" = true)
    (k_Accounts__close : PySem.W.keepIn K (.ref f_Accounts__close) = true)
    (a_Accounts__issue : PySem.W.findIn K (.ref C_Accounts) "issue" = some (some (.ref f_Accounts__issue)))
    (i_Accounts__issue : PySem.W.isFn K (.ref f_Accounts__issue) = true)
    (l_Accounts__issue : K.lookup f_Accounts__issue = some ⟨oc_Accounts__issue, od_Accounts__issue, .func (PySem.W.fnOf "issue" "Accounts.issue" (defArgs s_Accounts__issue) (defBody s_Accounts__issue) (defScope s_Accounts__issue) .none kV_Accounts__issue dc_Accounts__issue pm_Accounts__issue an_Accounts__issue cd_Accounts__issue ct_Accounts__issue), sl_Accounts__issue⟩)
    (e_Accounts__issue : PySem.W.codeIn K cd_Accounts__issue "Accounts.issue" = true)
    (k_Accounts__issue : PySem.W.keepIn K (.ref f_Accounts__issue) = true)
    (a_Accounts__burn : PySem.W.findIn K (.ref C_Accounts) "burn" = some (some (.ref f_Accounts__burn)))
    (i_Accounts__burn : PySem.W.isFn K (.ref f_Accounts__burn) = true)
    (l_Accounts__burn : K.lookup f_Accounts__burn = some ⟨oc_Accounts__burn, od_Accounts__burn, .func (PySem.W.fnOf "burn" "Accounts.burn" (defArgs s_Accounts__burn) (defBody s_Accounts__burn) (defScope s_Accounts__burn) .none kV_Accounts__burn dc_Accounts__burn pm_Accounts__burn an_Accounts__burn cd_Accounts__burn ct_Accounts__burn), sl_Accounts__burn⟩)
    (e_Accounts__burn : PySem.W.codeIn K cd_Accounts__burn "Accounts.burn" = true)
    (k_Accounts__burn : PySem.W.keepIn K (.ref f_Accounts__burn) = true)
    (a_Accounts__pay : PySem.W.findIn K (.ref C_Accounts) "pay" = some (some (.ref f_Accounts__pay)))
    (i_Accounts__pay : PySem.W.isFn K (.ref f_Accounts__pay) = true)
    (l_Accounts__pay : K.lookup f_Accounts__pay = some ⟨oc_Accounts__pay, od_Accounts__pay, .func (PySem.W.fnOf "pay" "Accounts.pay" (defArgs s_Accounts__pay) (defBody s_Accounts__pay) (defScope s_Accounts__pay) .none kV_Accounts__pay dc_Accounts__pay pm_Accounts__pay an_Accounts__pay cd_Accounts__pay ct_Accounts__pay), sl_Accounts__pay⟩)
    (e_Accounts__pay : PySem.W.codeIn K cd_Accounts__pay "Accounts.pay" = true)
    (k_Accounts__pay : PySem.W.keepIn K (.ref f_Accounts__pay) = true)
    (a_Accounts__hold : PySem.W.findIn K (.ref C_Accounts) "hold" = some (some (.ref f_Accounts__hold)))
    (i_Accounts__hold : PySem.W.isFn K (.ref f_Accounts__hold) = true)
    (l_Accounts__hold : K.lookup f_Accounts__hold = some ⟨oc_Accounts__hold, od_Accounts__hold, .func (PySem.W.fnOf "hold" "Accounts.hold" (defArgs s_Accounts__hold) (defBody s_Accounts__hold) (defScope s_Accounts__hold) .none kV_Accounts__hold dc_Accounts__hold pm_Accounts__hold an_Accounts__hold cd_Accounts__hold ct_Accounts__hold), sl_Accounts__hold⟩)
    (e_Accounts__hold : PySem.W.codeIn K cd_Accounts__hold "Accounts.hold" = true)
    (k_Accounts__hold : PySem.W.keepIn K (.ref f_Accounts__hold) = true)
    (a_Accounts__settle : PySem.W.findIn K (.ref C_Accounts) "settle" = some (some (.ref f_Accounts__settle)))
    (i_Accounts__settle : PySem.W.isFn K (.ref f_Accounts__settle) = true)
    (l_Accounts__settle : K.lookup f_Accounts__settle = some ⟨oc_Accounts__settle, od_Accounts__settle, .func (PySem.W.fnOf "settle" "Accounts.settle" (defArgs s_Accounts__settle) (defBody s_Accounts__settle) (defScope s_Accounts__settle) .none kV_Accounts__settle dc_Accounts__settle pm_Accounts__settle an_Accounts__settle cd_Accounts__settle ct_Accounts__settle), sl_Accounts__settle⟩)
    (e_Accounts__settle : PySem.W.codeIn K cd_Accounts__settle "Accounts.settle" = true)
    (k_Accounts__settle : PySem.W.keepIn K (.ref f_Accounts__settle) = true)
    (a_Accounts__release : PySem.W.findIn K (.ref C_Accounts) "release" = some (some (.ref f_Accounts__release)))
    (i_Accounts__release : PySem.W.isFn K (.ref f_Accounts__release) = true)
    (l_Accounts__release : K.lookup f_Accounts__release = some ⟨oc_Accounts__release, od_Accounts__release, .func (PySem.W.fnOf "release" "Accounts.release" (defArgs s_Accounts__release) (defBody s_Accounts__release) (defScope s_Accounts__release) .none kV_Accounts__release dc_Accounts__release pm_Accounts__release an_Accounts__release cd_Accounts__release ct_Accounts__release), sl_Accounts__release⟩)
    (e_Accounts__release : PySem.W.codeIn K cd_Accounts__release "Accounts.release" = true)
    (k_Accounts__release : PySem.W.keepIn K (.ref f_Accounts__release) = true)
    (a_Accounts__balance : PySem.W.findIn K (.ref C_Accounts) "balance" = some (some (.ref f_Accounts__balance)))
    (i_Accounts__balance : PySem.W.isFn K (.ref f_Accounts__balance) = true)
    (l_Accounts__balance : K.lookup f_Accounts__balance = some ⟨oc_Accounts__balance, od_Accounts__balance, .func (PySem.W.fnOf "balance" "Accounts.balance" (defArgs s_Accounts__balance) (defBody s_Accounts__balance) (defScope s_Accounts__balance) .none kV_Accounts__balance dc_Accounts__balance pm_Accounts__balance an_Accounts__balance cd_Accounts__balance ct_Accounts__balance), sl_Accounts__balance⟩)
    (e_Accounts__balance : PySem.W.codeIn K cd_Accounts__balance "Accounts.balance" = true)
    (k_Accounts__balance : PySem.W.keepIn K (.ref f_Accounts__balance) = true)
    (a_Accounts__owner : PySem.W.findIn K (.ref C_Accounts) "owner" = some (some (.ref f_Accounts__owner)))
    (i_Accounts__owner : PySem.W.isFn K (.ref f_Accounts__owner) = true)
    (l_Accounts__owner : K.lookup f_Accounts__owner = some ⟨oc_Accounts__owner, od_Accounts__owner, .func (PySem.W.fnOf "owner" "Accounts.owner" (defArgs s_Accounts__owner) (defBody s_Accounts__owner) (defScope s_Accounts__owner) .none kV_Accounts__owner dc_Accounts__owner pm_Accounts__owner an_Accounts__owner cd_Accounts__owner ct_Accounts__owner), sl_Accounts__owner⟩)
    (e_Accounts__owner : PySem.W.codeIn K cd_Accounts__owner "Accounts.owner" = true)
    (k_Accounts__owner : PySem.W.keepIn K (.ref f_Accounts__owner) = true)
    (a_Accounts__supply : PySem.W.findIn K (.ref C_Accounts) "supply" = some (some (.ref f_Accounts__supply)))
    (i_Accounts__supply : PySem.W.isFn K (.ref f_Accounts__supply) = true)
    (l_Accounts__supply : K.lookup f_Accounts__supply = some ⟨oc_Accounts__supply, od_Accounts__supply, .func (PySem.W.fnOf "supply" "Accounts.supply" (defArgs s_Accounts__supply) (defBody s_Accounts__supply) (defScope s_Accounts__supply) .none kV_Accounts__supply dc_Accounts__supply pm_Accounts__supply an_Accounts__supply cd_Accounts__supply ct_Accounts__supply), sl_Accounts__supply⟩)
    (e_Accounts__supply : PySem.W.codeIn K cd_Accounts__supply "Accounts.supply" = true)
    (k_Accounts__supply : PySem.W.keepIn K (.ref f_Accounts__supply) = true)
    (a_Accounts__rows : PySem.W.findIn K (.ref C_Accounts) "rows" = some (some (.ref f_Accounts__rows)))
    (i_Accounts__rows : PySem.W.isFn K (.ref f_Accounts__rows) = true)
    (l_Accounts__rows : K.lookup f_Accounts__rows = some ⟨oc_Accounts__rows, od_Accounts__rows, .func (PySem.W.fnOf "rows" "Accounts.rows" (defArgs s_Accounts__rows) (defBody s_Accounts__rows) (defScope s_Accounts__rows) .none kV_Accounts__rows dc_Accounts__rows pm_Accounts__rows an_Accounts__rows cd_Accounts__rows ct_Accounts__rows), sl_Accounts__rows⟩)
    (e_Accounts__rows : PySem.W.codeIn K cd_Accounts__rows "Accounts.rows" = true)
    (k_Accounts__rows : PySem.W.keepIn K (.ref f_Accounts__rows) = true)
    (a_Accounts__held : PySem.W.findIn K (.ref C_Accounts) "held" = some (some (.ref f_Accounts__held)))
    (i_Accounts__held : PySem.W.isFn K (.ref f_Accounts__held) = true)
    (l_Accounts__held : K.lookup f_Accounts__held = some ⟨oc_Accounts__held, od_Accounts__held, .func (PySem.W.fnOf "held" "Accounts.held" (defArgs s_Accounts__held) (defBody s_Accounts__held) (defScope s_Accounts__held) .none kV_Accounts__held dc_Accounts__held pm_Accounts__held an_Accounts__held cd_Accounts__held ct_Accounts__held), sl_Accounts__held⟩)
    (e_Accounts__held : PySem.W.codeIn K cd_Accounts__held "Accounts.held" = true)
    (k_Accounts__held : PySem.W.keepIn K (.ref f_Accounts__held) = true)
    (a_Accounts__clone : PySem.W.findIn K (.ref C_Accounts) "clone" = some (some (.ref f_Accounts__clone)))
    (i_Accounts__clone : PySem.W.isFn K (.ref f_Accounts__clone) = true)
    (l_Accounts__clone : K.lookup f_Accounts__clone = some ⟨oc_Accounts__clone, od_Accounts__clone, .func (PySem.W.fnOf "clone" "Accounts.clone" (defArgs s_Accounts__clone) (defBody s_Accounts__clone) (defScope s_Accounts__clone) .none kV_Accounts__clone dc_Accounts__clone pm_Accounts__clone an_Accounts__clone cd_Accounts__clone ct_Accounts__clone), sl_Accounts__clone⟩)
    (e_Accounts__clone : PySem.W.codeIn K cd_Accounts__clone "Accounts.clone" = true)
    (k_Accounts__clone : PySem.W.keepIn K (.ref f_Accounts__clone) = true)
    (a_Accounts___check : PySem.W.findIn K (.ref C_Accounts) "_check" = some (some (.ref f_Accounts___check)))
    (i_Accounts___check : PySem.W.isFn K (.ref f_Accounts___check) = true)
    (l_Accounts___check : K.lookup f_Accounts___check = some ⟨oc_Accounts___check, od_Accounts___check, .func (PySem.W.fnOf "_check" "Accounts._check" (defArgs s_Accounts___check) (defBody s_Accounts___check) (defScope s_Accounts___check) .none kV_Accounts___check dc_Accounts___check pm_Accounts___check an_Accounts___check cd_Accounts___check ct_Accounts___check), sl_Accounts___check⟩)
    (e_Accounts___check : PySem.W.codeIn K cd_Accounts___check "Accounts._check" = true)
    (k_Accounts___check : PySem.W.keepIn K (.ref f_Accounts___check) = true)
    (a_Accounts___check_owner : PySem.W.findIn K (.ref C_Accounts) "_check_owner" = some (some (.ref f_Accounts___check_owner)))
    (i_Accounts___check_owner : PySem.W.isFn K (.ref f_Accounts___check_owner) = true)
    (l_Accounts___check_owner : K.lookup f_Accounts___check_owner = some ⟨oc_Accounts___check_owner, od_Accounts___check_owner, .func (PySem.W.fnOf "_check_owner" "Accounts._check_owner" (defArgs s_Accounts___check_owner) (defBody s_Accounts___check_owner) (defScope s_Accounts___check_owner) .none kV_Accounts___check_owner dc_Accounts___check_owner pm_Accounts___check_owner an_Accounts___check_owner cd_Accounts___check_owner ct_Accounts___check_owner), sl_Accounts___check_owner⟩)
    (e_Accounts___check_owner : PySem.W.codeIn K cd_Accounts___check_owner "Accounts._check_owner" = true)
    (k_Accounts___check_owner : PySem.W.keepIn K (.ref f_Accounts___check_owner) = true)
    (a_Accounts___check_funds : PySem.W.findIn K (.ref C_Accounts) "_check_funds" = some (some (.ref f_Accounts___check_funds)))
    (i_Accounts___check_funds : PySem.W.isFn K (.ref f_Accounts___check_funds) = true)
    (l_Accounts___check_funds : K.lookup f_Accounts___check_funds = some ⟨oc_Accounts___check_funds, od_Accounts___check_funds, .func (PySem.W.fnOf "_check_funds" "Accounts._check_funds" (defArgs s_Accounts___check_funds) (defBody s_Accounts___check_funds) (defScope s_Accounts___check_funds) .none kV_Accounts___check_funds dc_Accounts___check_funds pm_Accounts___check_funds an_Accounts___check_funds cd_Accounts___check_funds ct_Accounts___check_funds), sl_Accounts___check_funds⟩)
    (e_Accounts___check_funds : PySem.W.codeIn K cd_Accounts___check_funds "Accounts._check_funds" = true)
    (k_Accounts___check_funds : PySem.W.keepIn K (.ref f_Accounts___check_funds) = true)
    (a_Accounts___check_payment : PySem.W.findIn K (.ref C_Accounts) "_check_payment" = some (some (.ref f_Accounts___check_payment)))
    (i_Accounts___check_payment : PySem.W.isFn K (.ref f_Accounts___check_payment) = true)
    (l_Accounts___check_payment : K.lookup f_Accounts___check_payment = some ⟨oc_Accounts___check_payment, od_Accounts___check_payment, .func (PySem.W.fnOf "_check_payment" "Accounts._check_payment" (defArgs s_Accounts___check_payment) (defBody s_Accounts___check_payment) (defScope s_Accounts___check_payment) .none kV_Accounts___check_payment dc_Accounts___check_payment pm_Accounts___check_payment an_Accounts___check_payment cd_Accounts___check_payment ct_Accounts___check_payment), sl_Accounts___check_payment⟩)
    (e_Accounts___check_payment : PySem.W.codeIn K cd_Accounts___check_payment "Accounts._check_payment" = true)
    (k_Accounts___check_payment : PySem.W.keepIn K (.ref f_Accounts___check_payment) = true)
    (a_Accounts___hold_of : PySem.W.findIn K (.ref C_Accounts) "_hold_of" = some (some (.ref f_Accounts___hold_of)))
    (i_Accounts___hold_of : PySem.W.isFn K (.ref f_Accounts___hold_of) = true)
    (l_Accounts___hold_of : K.lookup f_Accounts___hold_of = some ⟨oc_Accounts___hold_of, od_Accounts___hold_of, .func (PySem.W.fnOf "_hold_of" "Accounts._hold_of" (defArgs s_Accounts___hold_of) (defBody s_Accounts___hold_of) (defScope s_Accounts___hold_of) .none kV_Accounts___hold_of dc_Accounts___hold_of pm_Accounts___hold_of an_Accounts___hold_of cd_Accounts___hold_of ct_Accounts___hold_of), sl_Accounts___hold_of⟩)
    (e_Accounts___hold_of : PySem.W.codeIn K cd_Accounts___hold_of "Accounts._hold_of" = true)
    (k_Accounts___hold_of : PySem.W.keepIn K (.ref f_Accounts___hold_of) = true)
    (a_Accounts___is_held : PySem.W.findIn K (.ref C_Accounts) "_is_held" = some (some (.ref f_Accounts___is_held)))
    (i_Accounts___is_held : PySem.W.isFn K (.ref f_Accounts___is_held) = true)
    (l_Accounts___is_held : K.lookup f_Accounts___is_held = some ⟨oc_Accounts___is_held, od_Accounts___is_held, .func (PySem.W.fnOf "_is_held" "Accounts._is_held" (defArgs s_Accounts___is_held) (defBody s_Accounts___is_held) (defScope s_Accounts___is_held) .none kV_Accounts___is_held dc_Accounts___is_held pm_Accounts___is_held an_Accounts___is_held cd_Accounts___is_held ct_Accounts___is_held), sl_Accounts___is_held⟩)
    (e_Accounts___is_held : PySem.W.codeIn K cd_Accounts___is_held "Accounts._is_held" = true)
    (k_Accounts___is_held : PySem.W.keepIn K (.ref f_Accounts___is_held) = true)
    (xa_Refused : PySem.W.nsIn K mainGlobals "Refused" = some (some (.ref C_Refused)))
    (xl_Refused : K.lookup C_Refused = some (excClassObj nm_Refused qn_Refused C_Refused NN_Refused bs_Refused bm_Refused true sn_Refused sub_Refused ab_Refused col_Refused dd_Refused m0_Refused m1_Refused m2_Refused m3_Refused m5_Refused "ValueError.__new__"))
    (xr_Refused : PySem.HandSPX.refsVE bm_Refused = true)
    (xs_Refused : PySem.W.findIn K (.ref C_Refused) "__setattr__" = some (some (.builtin "object.__setattr__")))
    (xk_Refused : PySem.W.keepIn K (.ref C_Refused) = true)
    (xb_Refused : PySem.W.subIn K (.ref C_Refused) (.type "BaseException") = some true)
    (xt_Refused : PySem.W.typeIn K (.ref C_Refused) = some (.type "type"))
    (xh_Refused : PySem.W.hasDictIn K C_Refused = true)
    (xg_Refused : PySem.W.findIn K (.ref C_Refused) "__getattribute__" = some (some (.builtin "BaseException.__getattribute__")))
    (xq_Refused : PySem.W.findIn K (.ref C_Refused) "__getattr__" = some none)
    (xn_Refused_reason : PySem.W.findIn K (.ref C_Refused) "reason" = some none)
    (a_Refused____init__ : PySem.W.findIn K (.ref C_Refused) "__init__" = some (some (.ref f_Refused____init__)))
    (ty_Refused____init__ : PySem.W.typeIn K (.ref f_Refused____init__) = some (.type "function"))
    (l_Refused____init__ : K.lookup f_Refused____init__ = some ⟨oc_Refused____init__, od_Refused____init__, .func (PySem.W.fnOf "__init__" "Refused.__init__" (defArgs s_Refused____init__) (defBody s_Refused____init__) (defScope s_Refused____init__) .none kV_Refused____init__ dc_Refused____init__ pm_Refused____init__ an_Refused____init__ cd_Refused____init__ ct_Refused____init__), sl_Refused____init__⟩)
    (e_Refused____init__ : PySem.W.codeIn K cd_Refused____init__ "Refused.__init__" = true)
    (k_Refused____init__ : PySem.W.keepIn K (.ref f_Refused____init__) = true)
    (u_Refused_Refused : PySem.W.subIn K (.ref C_Refused) (.ref C_Refused) = some true)
    (a_ACCOUNT_LIMIT : PySem.W.nsIn K mainGlobals "ACCOUNT_LIMIT" = some (some (.int 100 t_ACCOUNT_LIMIT)))
    (a_HOLD_LIMIT : PySem.W.nsIn K mainGlobals "HOLD_LIMIT" = some (some (.int 100 t_HOLD_LIMIT)))
    (a_MINT : PySem.W.nsIn K mainGlobals "MINT" = some (some (.int (-1) t_MINT)))
    (a_SUPPLY_LIMIT : PySem.W.nsIn K mainGlobals "SUPPLY_LIMIT" = some (some (.int 1000000000000000 t_SUPPLY_LIMIT)))
    (z_any : PySem.W.nsIn K mainGlobals "any" = some none)
    (z_bool : PySem.W.nsIn K mainGlobals "bool" = some none)
    (z_dict : PySem.W.nsIn K mainGlobals "dict" = some none)
    (z_int : PySem.W.nsIn K mainGlobals "int" = some none)
    (z_isinstance : PySem.W.nsIn K mainGlobals "isinstance" = some none)
    (z_len : PySem.W.nsIn K mainGlobals "len" = some none)
    (z_list : PySem.W.nsIn K mainGlobals "list" = some none)
    (z_range : PySem.W.nsIn K mainGlobals "range" = some none)
    (z_sorted : PySem.W.nsIn K mainGlobals "sorted" = some none)
    (z_str : PySem.W.nsIn K mainGlobals "str" = some none) : Txt K mg C_Accounts C_Refused :=
  { d__law_word := ⟨_, _, (fun_mk l__law_word e__law_word k__law_word), PySem.W.mg_of X G a__law_word, ((fun_mk (st := s__law_word) l__law_word e__law_word k__law_word).binds (ps := ["size", "chars", "seed", "step"]) fun _ _ _ _ _ _ us hl => match us, hl with | [_, _, _, _], _ => rfl)⟩,
    d__law_name := ⟨_, _, (fun_mk l__law_name e__law_name k__law_name), PySem.W.mg_of X G a__law_name, ((fun_mk (st := s__law_name) l__law_name e__law_name k__law_name).binds (ps := ["cell"]) fun _ _ _ _ _ _ us hl => match us, hl with | [_], _ => rfl)⟩,
    d__law_key := ⟨_, _, (fun_mk l__law_key e__law_key k__law_key), PySem.W.mg_of X G a__law_key, ((fun_mk (st := s__law_key) l__law_key e__law_key k__law_key).binds (ps := ["cell"]) fun _ _ _ _ _ _ us hl => match us, hl with | [_], _ => rfl)⟩,
    d__law_amount := ⟨_, _, (fun_mk l__law_amount e__law_amount k__law_amount), PySem.W.mg_of X G a__law_amount, ((fun_mk (st := s__law_amount) l__law_amount e__law_amount k__law_amount).binds (ps := ["cell"]) fun _ _ _ _ _ _ us hl => match us, hl with | [_], _ => rfl)⟩,
    d__law_rich := ⟨_, _, (fun_mk l__law_rich e__law_rich k__law_rich), PySem.W.mg_of X G a__law_rich, ((fun_mk (st := s__law_rich) l__law_rich e__law_rich k__law_rich).binds (ps := ["cell", "k"]) fun _ _ _ _ _ _ us hl => match us, hl with | [_, _], _ => rfl)⟩,
    d__law_op := ⟨_, _, (fun_mk l__law_op e__law_op k__law_op), PySem.W.mg_of X G a__law_op, ((fun_mk (st := s__law_op) l__law_op e__law_op k__law_op).binds (ps := ["cell", "k"]) fun _ _ _ _ _ _ us hl => match us, hl with | [_, _], _ => rfl)⟩,
    d__law_call := ⟨_, _, (fun_mk l__law_call e__law_call k__law_call), PySem.W.mg_of X G a__law_call, ((fun_mk (st := s__law_call) l__law_call e__law_call k__law_call).binds (ps := ["accounts", "op"]) fun _ _ _ _ _ _ us hl => match us, hl with | [_, _], _ => rfl)⟩,
    d__law_sum := ⟨_, _, (fun_mk l__law_sum e__law_sum k__law_sum), PySem.W.mg_of X G a__law_sum, ((fun_mk (st := s__law_sum) l__law_sum e__law_sum k__law_sum).binds (ps := ["rows"]) fun _ _ _ _ _ _ us hl => match us, hl with | [_], _ => rfl)⟩,
    d__law_sound := ⟨_, _, (fun_mk l__law_sound e__law_sound k__law_sound), PySem.W.mg_of X G a__law_sound, ((fun_mk (st := s__law_sound) l__law_sound e__law_sound k__law_sound).binds (ps := ["accounts", "due"]) fun _ _ _ _ _ _ us hl => match us, hl with | [_, _], _ => rfl)⟩,
    d_law := ⟨_, _, (fun_mk l_law e_law k_law), PySem.W.mg_of X G a_law, ((fun_mk (st := s_law) l_law e_law k_law).binds (ps := ["script"]) fun _ _ _ _ _ _ us hl => match us, hl with | [_], _ => rfl)⟩,
    cl_Accounts := ⟨pg_Accounts, hd_Accounts, po_Accounts, sa_Accounts⟩,
    g_Accounts := PySem.W.mg_of X G ac_Accounts,
    na_Accounts__owners := na_Accounts__owners,
    na_Accounts__balances := na_Accounts__balances,
    na_Accounts__holds := na_Accounts__holds,
    na_Accounts__supply := na_Accounts__supply,
    mk_Accounts := ⟨_, _, ⟨mk_Accounts, a_Accounts____init__, i_Accounts____init__, kc_Accounts⟩, (fun_mk l_Accounts____init__ e_Accounts____init__ k_Accounts____init__), ((fun_mk (st := s_Accounts____init__) l_Accounts____init__ e_Accounts____init__ k_Accounts____init__).binds (ps := ["self"]) fun _ _ _ _ _ _ us hl => match us, hl with | [_], _ => rfl)⟩,
    me_Accounts__create := ⟨_, _, ⟨a_Accounts__create, i_Accounts__create, k_Accounts__create⟩, (fun_mk l_Accounts__create e_Accounts__create k_Accounts__create), ((fun_mk (st := s_Accounts__create) l_Accounts__create e_Accounts__create k_Accounts__create).binds (ps := ["self", "client", "name"]) fun _ _ _ _ _ _ us hl => match us, hl with | [_, _, _], _ => rfl)⟩,
    me_Accounts__close := ⟨_, _, ⟨a_Accounts__close, i_Accounts__close, k_Accounts__close⟩, (fun_mk l_Accounts__close e_Accounts__close k_Accounts__close), ((fun_mk (st := s_Accounts__close) l_Accounts__close e_Accounts__close k_Accounts__close).binds (ps := ["self", "client", "name"]) fun _ _ _ _ _ _ us hl => match us, hl with | [_, _, _], _ => rfl)⟩,
    me_Accounts__issue := ⟨_, _, ⟨a_Accounts__issue, i_Accounts__issue, k_Accounts__issue⟩, (fun_mk l_Accounts__issue e_Accounts__issue k_Accounts__issue), ((fun_mk (st := s_Accounts__issue) l_Accounts__issue e_Accounts__issue k_Accounts__issue).binds (ps := ["self", "client", "name", "amount"]) fun _ _ _ _ _ _ us hl => match us, hl with | [_, _, _, _], _ => rfl)⟩,
    me_Accounts__burn := ⟨_, _, ⟨a_Accounts__burn, i_Accounts__burn, k_Accounts__burn⟩, (fun_mk l_Accounts__burn e_Accounts__burn k_Accounts__burn), ((fun_mk (st := s_Accounts__burn) l_Accounts__burn e_Accounts__burn k_Accounts__burn).binds (ps := ["self", "client", "name", "amount"]) fun _ _ _ _ _ _ us hl => match us, hl with | [_, _, _, _], _ => rfl)⟩,
    me_Accounts__pay := ⟨_, _, ⟨a_Accounts__pay, i_Accounts__pay, k_Accounts__pay⟩, (fun_mk l_Accounts__pay e_Accounts__pay k_Accounts__pay), ((fun_mk (st := s_Accounts__pay) l_Accounts__pay e_Accounts__pay k_Accounts__pay).binds (ps := ["self", "client", "source", "target", "amount"]) fun _ _ _ _ _ _ us hl => match us, hl with | [_, _, _, _, _], _ => rfl)⟩,
    me_Accounts__hold := ⟨_, _, ⟨a_Accounts__hold, i_Accounts__hold, k_Accounts__hold⟩, (fun_mk l_Accounts__hold e_Accounts__hold k_Accounts__hold), ((fun_mk (st := s_Accounts__hold) l_Accounts__hold e_Accounts__hold k_Accounts__hold).binds (ps := ["self", "client", "source", "target", "amount", "key"]) fun _ _ _ _ _ _ us hl => match us, hl with | [_, _, _, _, _, _], _ => rfl)⟩,
    me_Accounts__settle := ⟨_, _, ⟨a_Accounts__settle, i_Accounts__settle, k_Accounts__settle⟩, (fun_mk l_Accounts__settle e_Accounts__settle k_Accounts__settle), ((fun_mk (st := s_Accounts__settle) l_Accounts__settle e_Accounts__settle k_Accounts__settle).binds (ps := ["self", "client", "key"]) fun _ _ _ _ _ _ us hl => match us, hl with | [_, _, _], _ => rfl)⟩,
    me_Accounts__release := ⟨_, _, ⟨a_Accounts__release, i_Accounts__release, k_Accounts__release⟩, (fun_mk l_Accounts__release e_Accounts__release k_Accounts__release), ((fun_mk (st := s_Accounts__release) l_Accounts__release e_Accounts__release k_Accounts__release).binds (ps := ["self", "client", "key"]) fun _ _ _ _ _ _ us hl => match us, hl with | [_, _, _], _ => rfl)⟩,
    me_Accounts__balance := ⟨_, _, ⟨a_Accounts__balance, i_Accounts__balance, k_Accounts__balance⟩, (fun_mk l_Accounts__balance e_Accounts__balance k_Accounts__balance), ((fun_mk (st := s_Accounts__balance) l_Accounts__balance e_Accounts__balance k_Accounts__balance).binds (ps := ["self", "name"]) fun _ _ _ _ _ _ us hl => match us, hl with | [_, _], _ => rfl)⟩,
    me_Accounts__owner := ⟨_, _, ⟨a_Accounts__owner, i_Accounts__owner, k_Accounts__owner⟩, (fun_mk l_Accounts__owner e_Accounts__owner k_Accounts__owner), ((fun_mk (st := s_Accounts__owner) l_Accounts__owner e_Accounts__owner k_Accounts__owner).binds (ps := ["self", "name"]) fun _ _ _ _ _ _ us hl => match us, hl with | [_, _], _ => rfl)⟩,
    me_Accounts__supply := ⟨_, _, ⟨a_Accounts__supply, i_Accounts__supply, k_Accounts__supply⟩, (fun_mk l_Accounts__supply e_Accounts__supply k_Accounts__supply), ((fun_mk (st := s_Accounts__supply) l_Accounts__supply e_Accounts__supply k_Accounts__supply).binds (ps := ["self"]) fun _ _ _ _ _ _ us hl => match us, hl with | [_], _ => rfl)⟩,
    me_Accounts__rows := ⟨_, _, ⟨a_Accounts__rows, i_Accounts__rows, k_Accounts__rows⟩, (fun_mk l_Accounts__rows e_Accounts__rows k_Accounts__rows), ((fun_mk (st := s_Accounts__rows) l_Accounts__rows e_Accounts__rows k_Accounts__rows).binds (ps := ["self"]) fun _ _ _ _ _ _ us hl => match us, hl with | [_], _ => rfl)⟩,
    me_Accounts__held := ⟨_, _, ⟨a_Accounts__held, i_Accounts__held, k_Accounts__held⟩, (fun_mk l_Accounts__held e_Accounts__held k_Accounts__held), ((fun_mk (st := s_Accounts__held) l_Accounts__held e_Accounts__held k_Accounts__held).binds (ps := ["self"]) fun _ _ _ _ _ _ us hl => match us, hl with | [_], _ => rfl)⟩,
    me_Accounts__clone := ⟨_, _, ⟨a_Accounts__clone, i_Accounts__clone, k_Accounts__clone⟩, (fun_mk l_Accounts__clone e_Accounts__clone k_Accounts__clone), ((fun_mk (st := s_Accounts__clone) l_Accounts__clone e_Accounts__clone k_Accounts__clone).binds (ps := ["self"]) fun _ _ _ _ _ _ us hl => match us, hl with | [_], _ => rfl)⟩,
    me_Accounts___check := ⟨_, _, ⟨a_Accounts___check, i_Accounts___check, k_Accounts___check⟩, (fun_mk l_Accounts___check e_Accounts___check k_Accounts___check), ((fun_mk (st := s_Accounts___check) l_Accounts___check e_Accounts___check k_Accounts___check).binds (ps := ["self", "name"]) fun _ _ _ _ _ _ us hl => match us, hl with | [_, _], _ => rfl)⟩,
    me_Accounts___check_owner := ⟨_, _, ⟨a_Accounts___check_owner, i_Accounts___check_owner, k_Accounts___check_owner⟩, (fun_mk l_Accounts___check_owner e_Accounts___check_owner k_Accounts___check_owner), ((fun_mk (st := s_Accounts___check_owner) l_Accounts___check_owner e_Accounts___check_owner k_Accounts___check_owner).binds (ps := ["self", "client", "name"]) fun _ _ _ _ _ _ us hl => match us, hl with | [_, _, _], _ => rfl)⟩,
    me_Accounts___check_funds := ⟨_, _, ⟨a_Accounts___check_funds, i_Accounts___check_funds, k_Accounts___check_funds⟩, (fun_mk l_Accounts___check_funds e_Accounts___check_funds k_Accounts___check_funds), ((fun_mk (st := s_Accounts___check_funds) l_Accounts___check_funds e_Accounts___check_funds k_Accounts___check_funds).binds (ps := ["self", "name", "amount"]) fun _ _ _ _ _ _ us hl => match us, hl with | [_, _, _], _ => rfl)⟩,
    me_Accounts___check_payment := ⟨_, _, ⟨a_Accounts___check_payment, i_Accounts___check_payment, k_Accounts___check_payment⟩, (fun_mk l_Accounts___check_payment e_Accounts___check_payment k_Accounts___check_payment), ((fun_mk (st := s_Accounts___check_payment) l_Accounts___check_payment e_Accounts___check_payment k_Accounts___check_payment).binds (ps := ["self", "client", "source", "target", "amount"]) fun _ _ _ _ _ _ us hl => match us, hl with | [_, _, _, _, _], _ => rfl)⟩,
    me_Accounts___hold_of := ⟨_, _, ⟨a_Accounts___hold_of, i_Accounts___hold_of, k_Accounts___hold_of⟩, (fun_mk l_Accounts___hold_of e_Accounts___hold_of k_Accounts___hold_of), ((fun_mk (st := s_Accounts___hold_of) l_Accounts___hold_of e_Accounts___hold_of k_Accounts___hold_of).binds (ps := ["self", "key"]) fun _ _ _ _ _ _ us hl => match us, hl with | [_, _], _ => rfl)⟩,
    me_Accounts___is_held := ⟨_, _, ⟨a_Accounts___is_held, i_Accounts___is_held, k_Accounts___is_held⟩, (fun_mk l_Accounts___is_held e_Accounts___is_held k_Accounts___is_held), ((fun_mk (st := s_Accounts___is_held) l_Accounts___is_held e_Accounts___is_held k_Accounts___is_held).binds (ps := ["self", "name"]) fun _ _ _ _ _ _ us hl => match us, hl with | [_, _], _ => rfl)⟩,
    x_Refused := ⟨PySem.W.mg_of X G xa_Refused, ⟨⟨_, _, _, _, _, _, _, _, _, _, _, _, _, _, _, xl_Refused, xr_Refused⟩, xs_Refused, xb_Refused, xt_Refused, xk_Refused⟩, ⟨xg_Refused, xq_Refused, xb_Refused, xh_Refused⟩⟩,
    xn_Refused_reason := xn_Refused_reason,
    ei_Refused := ⟨_, _, a_Refused____init__, ty_Refused____init__, (fun_mk l_Refused____init__ e_Refused____init__ k_Refused____init__), ((fun_mk (st := s_Refused____init__) l_Refused____init__ e_Refused____init__ k_Refused____init__).binds (ps := ["self", "reason"]) fun _ _ _ _ _ _ us hl => match us, hl with | [_, _], _ => rfl)⟩,
    u_Refused_Refused := u_Refused_Refused,
    c_ACCOUNT_LIMIT := ⟨_, PySem.W.mg_of X G a_ACCOUNT_LIMIT, _, rfl⟩,
    c_HOLD_LIMIT := ⟨_, PySem.W.mg_of X G a_HOLD_LIMIT, _, rfl⟩,
    c_MINT := ⟨_, PySem.W.mg_of X G a_MINT, _, rfl⟩,
    c_SUPPLY_LIMIT := ⟨_, PySem.W.mg_of X G a_SUPPLY_LIMIT, _, rfl⟩,
    z_any := PySem.W.mg_none_of X G z_any,
    z_bool := PySem.W.mg_none_of X G z_bool,
    z_dict := PySem.W.mg_none_of X G z_dict,
    z_int := PySem.W.mg_none_of X G z_int,
    z_isinstance := PySem.W.mg_none_of X G z_isinstance,
    z_len := PySem.W.mg_none_of X G z_len,
    z_list := PySem.W.mg_none_of X G z_list,
    z_range := PySem.W.mg_none_of X G z_range,
    z_sorted := PySem.W.mg_none_of X G z_sorted,
    z_str := PySem.W.mg_none_of X G z_str }
end Law
open PySem PySem.W PyProof.Rows
set_option maxRecDepth 100000 in
set_option maxHeartbeats 0 in
theorem PySem.Challenge.cw_oathledger_k45_whole_supply_is_conserved_holds : PySem.Challenge.rw_oathledger_k45_whole_supply_is_conserved.Holds := by
  w_on; o_law; k_head; (case hw => w_witness2)
  k_fill
  refine L2.walk_of (l := PySem.Challenge.rw_oathledger_k45_whole_supply_is_conserved) (n := 63) (k := 10) (x := "script") (CX := fun _ => L2.CX0) (sp := fun w => Law.spLaw _) rfl (by decide) rfl ⟨rfl, by decide, by decide⟩ (fun w h Y => PySem.W.kIn_of Y) ?F (fun _ _ a ns hl _ hS => ⟨a, ns, rfl, hS, hl, fun _ => rfl⟩) (fun _ _ _ _ _ h => h)
  case F =>
    intro w mg fa h KX G hmg
    refine' Law.fin hmg (Law.all_mk KX G ?a__law_word ?l__law_word ?e__law_word ?k__law_word ?a__law_name ?l__law_name ?e__law_name ?k__law_name ?a__law_key ?l__law_key ?e__law_key ?k__law_key ?a__law_amount ?l__law_amount ?e__law_amount ?k__law_amount ?a__law_rich ?l__law_rich ?e__law_rich ?k__law_rich ?a__law_op ?l__law_op ?e__law_op ?k__law_op ?a__law_call ?l__law_call ?e__law_call ?k__law_call ?a__law_sum ?l__law_sum ?e__law_sum ?k__law_sum ?a__law_sound ?l__law_sound ?e__law_sound ?k__law_sound ?a_law ?l_law ?e_law ?k_law ?ac_Accounts ?pg_Accounts ?hd_Accounts ?po_Accounts ?sa_Accounts ?mk_Accounts ?kc_Accounts ?na_Accounts__owners ?na_Accounts__balances ?na_Accounts__holds ?na_Accounts__supply ?a_Accounts____init__ ?i_Accounts____init__ ?l_Accounts____init__ ?e_Accounts____init__ ?k_Accounts____init__ ?a_Accounts__create ?i_Accounts__create ?l_Accounts__create ?e_Accounts__create ?k_Accounts__create ?a_Accounts__close ?i_Accounts__close ?l_Accounts__close ?e_Accounts__close ?k_Accounts__close ?a_Accounts__issue ?i_Accounts__issue ?l_Accounts__issue ?e_Accounts__issue ?k_Accounts__issue ?a_Accounts__burn ?i_Accounts__burn ?l_Accounts__burn ?e_Accounts__burn ?k_Accounts__burn ?a_Accounts__pay ?i_Accounts__pay ?l_Accounts__pay ?e_Accounts__pay ?k_Accounts__pay ?a_Accounts__hold ?i_Accounts__hold ?l_Accounts__hold ?e_Accounts__hold ?k_Accounts__hold ?a_Accounts__settle ?i_Accounts__settle ?l_Accounts__settle ?e_Accounts__settle ?k_Accounts__settle ?a_Accounts__release ?i_Accounts__release ?l_Accounts__release ?e_Accounts__release ?k_Accounts__release ?a_Accounts__balance ?i_Accounts__balance ?l_Accounts__balance ?e_Accounts__balance ?k_Accounts__balance ?a_Accounts__owner ?i_Accounts__owner ?l_Accounts__owner ?e_Accounts__owner ?k_Accounts__owner ?a_Accounts__supply ?i_Accounts__supply ?l_Accounts__supply ?e_Accounts__supply ?k_Accounts__supply ?a_Accounts__rows ?i_Accounts__rows ?l_Accounts__rows ?e_Accounts__rows ?k_Accounts__rows ?a_Accounts__held ?i_Accounts__held ?l_Accounts__held ?e_Accounts__held ?k_Accounts__held ?a_Accounts__clone ?i_Accounts__clone ?l_Accounts__clone ?e_Accounts__clone ?k_Accounts__clone ?a_Accounts___check ?i_Accounts___check ?l_Accounts___check ?e_Accounts___check ?k_Accounts___check ?a_Accounts___check_owner ?i_Accounts___check_owner ?l_Accounts___check_owner ?e_Accounts___check_owner ?k_Accounts___check_owner ?a_Accounts___check_funds ?i_Accounts___check_funds ?l_Accounts___check_funds ?e_Accounts___check_funds ?k_Accounts___check_funds ?a_Accounts___check_payment ?i_Accounts___check_payment ?l_Accounts___check_payment ?e_Accounts___check_payment ?k_Accounts___check_payment ?a_Accounts___hold_of ?i_Accounts___hold_of ?l_Accounts___hold_of ?e_Accounts___hold_of ?k_Accounts___hold_of ?a_Accounts___is_held ?i_Accounts___is_held ?l_Accounts___is_held ?e_Accounts___is_held ?k_Accounts___is_held ?xa_Refused ?xl_Refused ?xr_Refused ?xs_Refused ?xk_Refused ?xb_Refused ?xt_Refused ?xh_Refused ?xg_Refused ?xq_Refused ?xn_Refused_reason ?a_Refused____init__ ?ty_Refused____init__ ?l_Refused____init__ ?e_Refused____init__ ?k_Refused____init__ ?u_Refused_Refused ?a_ACCOUNT_LIMIT ?a_HOLD_LIMIT ?a_MINT ?a_SUPPLY_LIMIT ?z_any ?z_bool ?z_dict ?z_int ?z_isinstance ?z_len ?z_list ?z_range ?z_sorted ?z_str)
    (case a__law_word => k_is)
    (case l__law_word => k_is)
    (case e__law_word => k_is)
    (case k__law_word => k_is)
    (case a__law_name => k_is)
    (case l__law_name => k_is)
    (case e__law_name => k_is)
    (case k__law_name => k_is)
    (case a__law_key => k_is)
    (case l__law_key => k_is)
    (case e__law_key => k_is)
    (case k__law_key => k_is)
    (case a__law_amount => k_is)
    (case l__law_amount => k_is)
    (case e__law_amount => k_is)
    (case k__law_amount => k_is)
    (case a__law_rich => k_is)
    (case l__law_rich => k_is)
    (case e__law_rich => k_is)
    (case k__law_rich => k_is)
    (case a__law_op => k_is)
    (case l__law_op => k_is)
    (case e__law_op => k_is)
    (case k__law_op => k_is)
    (case a__law_call => k_is)
    (case l__law_call => k_is)
    (case e__law_call => k_is)
    (case k__law_call => k_is)
    (case a__law_sum => k_is)
    (case l__law_sum => k_is)
    (case e__law_sum => k_is)
    (case k__law_sum => k_is)
    (case a__law_sound => k_is)
    (case l__law_sound => k_is)
    (case e__law_sound => k_is)
    (case k__law_sound => k_is)
    (case a_law => k_is)
    (case l_law => k_is)
    (case e_law => k_is)
    (case k_law => k_is)
    (case ac_Accounts => k_is)
    (case pg_Accounts => k_is)
    (case hd_Accounts => k_is)
    (case po_Accounts => k_is)
    (case sa_Accounts => k_is)
    (case mk_Accounts => k_is)
    (case kc_Accounts => k_is)
    (case na_Accounts__owners => k_is)
    (case na_Accounts__balances => k_is)
    (case na_Accounts__holds => k_is)
    (case na_Accounts__supply => k_is)
    (case a_Accounts____init__ => k_is)
    (case i_Accounts____init__ => k_is)
    (case l_Accounts____init__ => k_is)
    (case e_Accounts____init__ => k_is)
    (case k_Accounts____init__ => k_is)
    (case a_Accounts__create => k_is)
    (case i_Accounts__create => k_is)
    (case l_Accounts__create => k_is)
    (case e_Accounts__create => k_is)
    (case k_Accounts__create => k_is)
    (case a_Accounts__close => k_is)
    (case i_Accounts__close => k_is)
    (case l_Accounts__close => k_is)
    (case e_Accounts__close => k_is)
    (case k_Accounts__close => k_is)
    (case a_Accounts__issue => k_is)
    (case i_Accounts__issue => k_is)
    (case l_Accounts__issue => k_is)
    (case e_Accounts__issue => k_is)
    (case k_Accounts__issue => k_is)
    (case a_Accounts__burn => k_is)
    (case i_Accounts__burn => k_is)
    (case l_Accounts__burn => k_is)
    (case e_Accounts__burn => k_is)
    (case k_Accounts__burn => k_is)
    (case a_Accounts__pay => k_is)
    (case i_Accounts__pay => k_is)
    (case l_Accounts__pay => k_is)
    (case e_Accounts__pay => k_is)
    (case k_Accounts__pay => k_is)
    (case a_Accounts__hold => k_is)
    (case i_Accounts__hold => k_is)
    (case l_Accounts__hold => k_is)
    (case e_Accounts__hold => k_is)
    (case k_Accounts__hold => k_is)
    (case a_Accounts__settle => k_is)
    (case i_Accounts__settle => k_is)
    (case l_Accounts__settle => k_is)
    (case e_Accounts__settle => k_is)
    (case k_Accounts__settle => k_is)
    (case a_Accounts__release => k_is)
    (case i_Accounts__release => k_is)
    (case l_Accounts__release => k_is)
    (case e_Accounts__release => k_is)
    (case k_Accounts__release => k_is)
    (case a_Accounts__balance => k_is)
    (case i_Accounts__balance => k_is)
    (case l_Accounts__balance => k_is)
    (case e_Accounts__balance => k_is)
    (case k_Accounts__balance => k_is)
    (case a_Accounts__owner => k_is)
    (case i_Accounts__owner => k_is)
    (case l_Accounts__owner => k_is)
    (case e_Accounts__owner => k_is)
    (case k_Accounts__owner => k_is)
    (case a_Accounts__supply => k_is)
    (case i_Accounts__supply => k_is)
    (case l_Accounts__supply => k_is)
    (case e_Accounts__supply => k_is)
    (case k_Accounts__supply => k_is)
    (case a_Accounts__rows => k_is)
    (case i_Accounts__rows => k_is)
    (case l_Accounts__rows => k_is)
    (case e_Accounts__rows => k_is)
    (case k_Accounts__rows => k_is)
    (case a_Accounts__held => k_is)
    (case i_Accounts__held => k_is)
    (case l_Accounts__held => k_is)
    (case e_Accounts__held => k_is)
    (case k_Accounts__held => k_is)
    (case a_Accounts__clone => k_is)
    (case i_Accounts__clone => k_is)
    (case l_Accounts__clone => k_is)
    (case e_Accounts__clone => k_is)
    (case k_Accounts__clone => k_is)
    (case a_Accounts___check => k_is)
    (case i_Accounts___check => k_is)
    (case l_Accounts___check => k_is)
    (case e_Accounts___check => k_is)
    (case k_Accounts___check => k_is)
    (case a_Accounts___check_owner => k_is)
    (case i_Accounts___check_owner => k_is)
    (case l_Accounts___check_owner => k_is)
    (case e_Accounts___check_owner => k_is)
    (case k_Accounts___check_owner => k_is)
    (case a_Accounts___check_funds => k_is)
    (case i_Accounts___check_funds => k_is)
    (case l_Accounts___check_funds => k_is)
    (case e_Accounts___check_funds => k_is)
    (case k_Accounts___check_funds => k_is)
    (case a_Accounts___check_payment => k_is)
    (case i_Accounts___check_payment => k_is)
    (case l_Accounts___check_payment => k_is)
    (case e_Accounts___check_payment => k_is)
    (case k_Accounts___check_payment => k_is)
    (case a_Accounts___hold_of => k_is)
    (case i_Accounts___hold_of => k_is)
    (case l_Accounts___hold_of => k_is)
    (case e_Accounts___hold_of => k_is)
    (case k_Accounts___hold_of => k_is)
    (case a_Accounts___is_held => k_is)
    (case i_Accounts___is_held => k_is)
    (case l_Accounts___is_held => k_is)
    (case e_Accounts___is_held => k_is)
    (case k_Accounts___is_held => k_is)
    (case xa_Refused => k_is)
    (case xl_Refused => k_is)
    (case xr_Refused => decide +kernel)
    (case xs_Refused => k_is)
    (case xk_Refused => k_is)
    (case xb_Refused => k_is)
    (case xt_Refused => k_is)
    (case xh_Refused => k_is)
    (case xg_Refused => k_is)
    (case xq_Refused => k_is)
    (case xn_Refused_reason => k_is)
    (case a_Refused____init__ => k_is)
    (case ty_Refused____init__ => k_is)
    (case l_Refused____init__ => k_is)
    (case e_Refused____init__ => k_is)
    (case k_Refused____init__ => k_is)
    (case u_Refused_Refused => k_is)
    (case a_ACCOUNT_LIMIT => k_is)
    (case a_HOLD_LIMIT => k_is)
    (case a_MINT => k_is)
    (case a_SUPPLY_LIMIT => k_is)
    (case z_any => k_is)
    (case z_bool => k_is)
    (case z_dict => k_is)
    (case z_int => k_is)
    (case z_isinstance => k_is)
    (case z_len => k_is)
    (case z_list => k_is)
    (case z_range => k_is)
    (case z_sorted => k_is)
    (case z_str => k_is)

