--@ins
import PyProof.Rows.All
import Wide.All
import OpenK.AllK
import Wide.FinOn
import HandS.ForMost
import HandS.Walk
import HandS.Flow
import HandS.Codes
import HandS.IsInst
import HandS.Conv
import HandS.StrMore
import PyProof.MeetsSeq2
import PyProof.DictTable
import HandS.Wide
import HandS.TupAny
import HandS.More
import HandS.Dict
import HandS.ForExc
import HandS.ExcIs
import HandS.ExcField
import HandS.DeepEq
import HandS.TupLe
import HandS.Steps
import HandS.ExcInit
import HandS.HotCalls
import HandS.TryMany
import HandS.FStr
import HandS.WideBits
import HandS.SortRule
import HandS.SortKw
import HandS.Keys
import KE.SortKeyHeap
import KE.DataMinMax
import KE.SortData
import HandS.RaiseMore
import HandS.Zip
import HandS.DictSubView
import HandS.Deep
import HandS.Sort
import HandS.SetKeys
import HandS.Strs
import HandS.SetFor
import HandS.DictComp
import HandS.Style
import HandS.StrSplit
import KE.GoesEnum
import PySem.Challenge.RW_oathledger_k43_parse_command
set_option Elab.async false
set_option linter.all false
set_option maxRecDepth 100000
set_option maxHeartbeats 4000000
namespace Law
open PySem PySem.Spec PyProof.Rows L2
open C8 (Cal Met Mak pe_c pe_mk pe_mt pe_mt0 pe_gc pss_cut tCut)
/-! ### a def of the top, by its name -/
structure DefOk (K : PySem.W.Frag) (mg : Str → Option Value) (x : Str) (st : Stmt) (ps : List Str) : Prop where
  ex : ∃ (f : Addr) (fd : FuncData), L2.Fun K x x st f fd ∧ mg x = some (.ref f) ∧ Binds K fd ps []
section
variable {P : Program} {w : World} {K : PySem.W.Frag} {mg : Str → Option Value} {base : Heap}
/-- a def's promise, by its body -/
theorem cal {x : Str} {st : Stmt} {N ps : List Str} {k : Nat} {sp : Sp} (D : DefOk K mg x st ps) (S : FnScope N ps (defScope st)) (len : ∀ vs H Q E, sp vs H Q E → vs.length = ps.length)
    (hbody : ∀ (f : Addr) (cdv : Value) (A : Around) (outer : List Env) (s : Shared) (H : Hp) (vs : List V) (Q : VK) (E : XK), Room k (A.deeper (envOfC x (defScope st) s.heap.objs.size f cdv)) → sp vs H Q E →
      ∃ t, PSs (cxOf L2.CX0 P w K mg base N x (defScope st) f cdv A outer s H E).nox (defBody st) t ∧ t { nx := fun _ H' => Q .non H', rt := Q } (start N vs) H) : Cal P w K mg base (k + 1) x sp [] := by
  obtain ⟨f, fd, F, hm, b⟩ := D.ex
  exact ⟨f, fd, ps, [], F.ok S len (fun cdv A outer s H vs Q E hr h => hbody f cdv A outer s H vs Q E hr h), hm, F.kp, b, .nil⟩
/-- a call without arguments -/
theorem pe_c0 {X : Cx} {k j : Nat} {x : Str} {sp : Sp} {dvs : List V} {p pos : Pos} (c : Cal X.prog X.w X.K X.mg X.base k x sp dvs) (hr : Room j X.A) (hk : k ≤ j) (hg : Gl X x)
    (hdb : (x == ("__debug__" : Str)) = false := by decide) : PE X (.Call (.Name x p) [] [] pos) (tCall sp dvs L2.E0 tNil) := by
  obtain ⟨f, fd, ps, ds, F, hm, kp, b, d⟩ := c.ex
  exact pe_call0 F (hr.mono hk) hg hm kp b d pass0 hdb
end
/-! ### small things -/
theorem same_upd {H : Hp} {p : Addr} {o : HO} (h : H p = none) : Same H (upd H p o) := fun b x e => by
  rw [upd_ne (ne_of_none e h)]
  exact e
theorem same_mut {H H' : Hp} {p : Addr} {o : HO} (s : Same H H') (h : H p = none) : Same H (upd H' p o) := fun b x e => by
  rw [upd_ne (ne_of_none e h)]
  exact s b x e
theorem sz1000 {n : Nat} (h : n ≤ 100000) : n ≤ sizeLine := Nat.le_trans h (by decide)
theorem sz1000' {n : Nat} (h : n < 100000) : n < sizeLine := Nat.lt_of_lt_of_le h (by decide)
theorem sz1000'' {n : Nat} (h : n ≤ 16777216) : n ≤ sizeLine := by rw [sizeLine_eq]; exact h
theorem sq {K : PySem.W.Frag} {H : Hp} {a : Addr} {xs : List V} (h : H a = some (.lst xs)) : SqL K H a xs := .inl (.inl h)
def spLaw (K : PySem.W.Frag) : Sp := fun vs H Q _ => ∃ (a : Addr) (ns : List Int), vs = [.ref a] ∧ SqL K H a (ns.map V.int) ∧ ns.length ≤ 63 ∧ ∀ H', Q (.bl true) H'
/-! ### the reading, step by step -/
local macro_rules | `(tactic| walk_at "sd") => `(tactic| first
  | omega
  | decide
  | assumption
  | (show _ ∨ _; exact Or.inl ⟨by omega, by omega⟩)
  | (show _ ∨ _; exact Or.inr ⟨by omega, by omega⟩)
  | (show _ ∧ _; exact ⟨by omega, by omega⟩)
  | (show _ ∧ _; exact ⟨by decide, by decide⟩)
  | exact sz1000 (by omega)
  | exact sz1000' (by omega))
local macro_rules | `(tactic| walk_at "sz") => `(tactic| first
  | exact sz1000 (Nat.le_of_ble_eq_true rfl)
  | exact sz1000 (by omega)
  | exact sz1000'' (by omega)
  | assumption)
/-- one step of a reading: a slot, an operator upon numbers, a call upon values -/
local macro_rules | `(tactic| walk_at "rd") => `(tactic| first
  | refine ⟨_, (rfl : (_ : List (Option V))[_]? = some (some _)), ?_⟩
  | refine ⟨_, _, (rfl : (_ : V) = _), (rfl : (_ : V) = _), (by walk_at "sd" : (_ : Prop)), ?_⟩
  | refine ⟨_, _, (rfl : (_ : V) = _), (rfl : (_ : V) = _), ?_⟩
  | refine ⟨_, (rfl : (_ : List V) = _), (by walk_at "sd" : (_ : Prop)), (by walk_at "sd" : (_ : Prop)), ?_⟩
  | refine ⟨_, (rfl : (_ : List V) = _), ?_⟩
  | refine ⟨_, (rfl : (_ : V) = _), ?_⟩
  | refine .inl ⟨_, (rfl : (_ : List V) = _), ?_⟩
  | refine ⟨⟨_, (rfl : (_ : V) = _)⟩, ?_⟩
  | refine ⟨(rfl : scal _ _ = true), ?_⟩
  | refine ⟨(rfl : V.non = V.non), ?_⟩
  | refine ⟨(by walk_at "sz" : (_ ≤ sizeLine)), ?_⟩)
local macro_rules | `(tactic| walk_at "rds") => `(tactic| repeat walk_at "rd")
theorem tyes {σ : L2.St} {H : Hp} {A B : Hp → Prop} (h : A H) : tYes σ H (fun b H3 => if b = true then A H3 else B H3) := by
  show (if true = true then A H else B H)
  rw [if_pos rfl]
  exact h
theorem sum_ones {ys : List Str} (h : ∀ y ∈ ys, y.length = 1) : (ys.map (fun x => x.length)).sum = ys.length := by
  induction ys with
  | nil => rfl
  | cons y r ih =>
    rw [List.map_cons, List.sum_cons, ih (fun z hz => h z (List.mem_cons_of_mem _ hz)), h y List.mem_cons_self, List.length_cons]
    omega
theorem chr_at {z : Str} {i : Int} (h0 : 0 ≤ i) (h1 : i < z.length) : ∃ c, atI z.cps.toList i = some c := by
  obtain ⟨j, rfl⟩ := Int.eq_ofNat_of_zero_le h0
  have hj : j < z.cps.toList.length := by
    rw [Array.length_toList]
    exact Int.ofNat_lt.mp h1
  exact ⟨z.cps.toList[j], atI_nat (List.getElem?_eq_getElem hj)⟩
/-- what an append to a tracked new list leaves -/
theorem lst_app {α : Type} {H : Hp} {D : Addr} {f : α → V} {ys : List α} {y : α} : upd H D (.lst (ys.map f ++ [f y])) D = some (.lst ((ys ++ [y]).map f)) := by
  rw [upd_same, List.map_append]
  rfl
theorem rg40 {n : Nat} (h : n ≤ 100000) : RgC 0 n 40 ((n + 39) / 40) := by
  have e : Builtin.Range.rangeSize 0 (n : Int) 40 = (((n + 39) / 40 : Nat) : Int) := by
    rw [rangeSize_pos (by decide) (by omega)]
    omega
  refine ⟨by decide, by decide, ?_, e⟩
  unfold Builtin.Range.small
  rw [e]
  unfold Builtin.Range.rangeFitsLong
  simp
  omega
theorem isi {K : PySem.W.Frag} {H : Hp} {x : V} {T1 T2 : String} {b : Bool} {Q : VK} (ty : TyX K H x (.type T1)) (e : kitB T1 T2 = some b) (q : Q (.bl b) H) : rIsi K [x, .ty T2] H Q :=
  ⟨x, .ty T2, _, _, b, rfl, .ty _, ty, kit_ty e, q⟩
theorem ifT {c : Bool} {A B : Prop} (hc : c = true) (h : A) : if c = true then A else B := by
  rw [if_pos hc]
  exact h
theorem ifF {c : Bool} {A B : Prop} (hc : c = false) (h : B) : if c = true then A else B := by
  rw [if_neg (by rw [hc]; decide)]
  exact h
local macro_rules | `(tactic| walk_at "isk") => `(tactic| first
  | exact .base (.int _) | exact .base (.str _) | exact .base (.bl _) | exact .base .non
  | exact .base (.lst (by assumption)) | exact .base (.tup (by assumption)) | exact .base (.dK (by assumption)))
/-- isinstance(x, T) with a built-in T; the object's fact stands in the context -/
local macro_rules | `(tactic| walk_at "isi") => `(tactic| first
  | refine ⟨_, .ty _, _, _, true, (rfl : (_ : List V) = _), .ty _, (by walk_at "isk"), kit_ty (by decide +kernel), ?_⟩
  | refine ⟨_, .ty _, _, _, false, (rfl : (_ : List V) = _), .ty _, (by walk_at "isk"), kit_ty (by decide +kernel), ?_⟩)
/-! ### classes of the top -/
structure MethOk (K : PySem.W.Frag) (C : Addr) (m qual : Str) (st : Stmt) (ps : List Str) : Prop where
  ex : ∃ (f : Addr) (fd : FuncData), Meth K C m f ∧ L2.Fun K m qual st f fd ∧ Binds K fd ps []
structure MakOk (K : PySem.W.Frag) (C : Addr) (qual : Str) (st : Stmt) (ps : List Str) : Prop where
  ex : ∃ (f : Addr) (fd : FuncData), Mk K C f ∧ L2.Fun K "__init__" qual st f fd ∧ Binds K fd ps []
section
variable {P : Program} {w : World} {K : PySem.W.Frag} {mg : Str → Option Value} {base : Heap}
theorem met {C : Addr} {m qual : Str} {st : Stmt} {N ps : List Str} {k : Nat} {sp : Sp} (c : Cls K C) (D : MethOk K C m qual st ps) (S : FnScope N ps (defScope st)) (len : ∀ vs H Q E, sp vs H Q E → vs.length = ps.length)
    (hbody : ∀ (f : Addr) (cdv : Value) (A : Around) (outer : List Env) (s : Shared) (H : Hp) (vs : List V) (Q : VK) (E : XK), Room k (A.deeper (envOfC qual (defScope st) s.heap.objs.size f cdv)) → sp vs H Q E →
      ∃ t, PSs (cxOf L2.CX0 P w K mg base N qual (defScope st) f cdv A outer s H E).nox (defBody st) t ∧ t { nx := fun _ H' => Q .non H', rt := Q } (start N vs) H) : Met P w K mg base (k + 1) C m sp [] := by
  obtain ⟨f, fd, M, F, b⟩ := D.ex
  exact ⟨f, fd, ps, [], c, M, F.ok S len (fun cdv A outer s H vs Q E hr h => hbody f cdv A outer s H vs Q E hr h), b, .nil⟩
theorem mak {C : Addr} {x qual : Str} {st : Stmt} {N ps : List Str} {k : Nat} {sp : Sp} (hm : mg x = some (.ref C)) (D : MakOk K C qual st ps) (S : FnScope N ps (defScope st)) (len : ∀ vs H Q E, sp vs H Q E → vs.length = ps.length)
    (hbody : ∀ (f : Addr) (cdv : Value) (A : Around) (outer : List Env) (s : Shared) (H : Hp) (vs : List V) (Q : VK) (E : XK), Room k (A.deeper (envOfC qual (defScope st) s.heap.objs.size f cdv)) → sp vs H Q E →
      ∃ t, PSs (cxOf L2.CX0 P w K mg base N qual (defScope st) f cdv A outer s H E).nox (defBody st) t ∧ t { nx := fun _ H' => Q .non H', rt := Q } (start N vs) H) : Mak P w K mg base (k + 1) x C sp [] := by
  obtain ⟨f, fd, M, F, b⟩ := D.ex
  exact ⟨f, fd, ps, [], M, F.ok S len (fun cdv A outer s H vs Q E hr h => hbody f cdv A outer s H vs Q E hr h), hm, b, .nil⟩
end
/-- a tuple of the top, in the written part -/
def KTup (K : PySem.W.Frag) (a : Addr) (xs : List V) : Prop := ∃ o its n, K.lookup a = some o ∧ o.cls = Value.type "tuple" ∧ o.data = Data.seq its n ∧ its.size ≤ sizeLine ∧ Vals xs its.toList
theorem pe_mk0 {X : Cx} {k j : Nat} {x : Str} {C : Addr} {sp : Sp} {dvs : List V} {p pos : Pos} (c : Mak X.prog X.w X.K X.mg X.base k x C sp dvs) (hr : Room j X.A) (hk : k + 1 ≤ j) (hg : Gl X x)
    (hdb : (x == ("__debug__" : Str)) = false := by decide) : PE X (.Call (.Name x p) [] [] pos) (tMake C sp dvs L2.E0 tNil) := by
  obtain ⟨f, fd, ps, ds, M, F, hm, b, d⟩ := c.ex
  exact pe_make0 M F (hr.mono hk) hg hm b d pass0 hdb
/-! ### rules whose written part is named K (a comprehension's context is another one) -/
section
variable {X : Cx} {K : PySem.W.Frag}
theorem kin (h : X.K = K := by rfl) : OpR X (compareOp .In) (rIn K false) := by subst h; exact op_in_seq
theorem knin (h : X.K = K := by rfl) : OpR X (compareOp .NotIn) (rIn K true) := by subst h; exact op_notIn_seq
theorem kixl (h : X.K = K := by rfl) : IxR X (rIxL K) := by subst h; exact ix_list
theorem kixt (h : X.K = K := by rfl) : IxR X (rIxT K) := by subst h; exact ix_tup
theorem ksll (h : X.K = K := by rfl) : SlR X (rSlL K) := by subst h; exact sl_list
theorem kisi (h : X.K = K := by rfl) : CallR X (.builtin "isinstance") (rIsi K) := by subst h; exact call_isi
theorem kfld {o : Expr} {f : Str} {pos : Pos} {ta : TE} (he : PE X o ta) (hb : attributeBase o f X.env (eval o X.env) = eval o X.env := by rfl) (h : X.K = K := by rfl) : PE X (.Attribute o f pos) (tFld K ta f) := by subst h; exact pe_fld he hb
def rLenK (K : PySem.W.Frag) : List V → Hp → VK → Prop := fun xs H Q => ∃ p ys, xs = [.ref p] ∧ (SqL K H p ys ∨ SqT K H p ys) ∧ Q (.int ys.length) H
theorem klen (h : X.K = K := by rfl) : CallR X (.builtin "len") (rLenK K) := by subst h; exact call_len_seq
end
theorem hu1 {k : Nat} {A : Around} (hr : Room k A) : A.units + 1 < cLine := by have := hr.units; omega
section
variable {X : Cx}
theorem kdin {d : Addr} (h : ∃ es n, KDict X.K X.w d es n) : OpR X (compareOp .In) (fun x y H Q => ∃ (z : Str) (r : Option Value), x = .str z ∧ y = .ref d ∧ PySem.W.nsIn X.K d z = some r ∧ Q (.bl r.isSome) H) := by
  obtain ⟨es, n, D⟩ := h
  exact op_in_kd D
theorem kdnin {d : Addr} (h : ∃ es n, KDict X.K X.w d es n) : OpR X (compareOp .NotIn) (fun x y H Q => ∃ (z : Str) (r : Option Value), x = .str z ∧ y = .ref d ∧ PySem.W.nsIn X.K d z = some r ∧ Q (.bl (!r.isSome)) H) := by
  obtain ⟨es, n, D⟩ := h
  exact op_notIn_kd D
end
theorem kgtup {X : Cx} {K : PySem.W.Frag} {es : List Expr} {k : Nat} {t : TGs} {n : Nat} {pos : Pos} (hc : X.calm = true) (h : PGs X es t)
    (hn : (assignEach es X.env).length = n := by rfl) (hst : (assignEach es X.env).findIdx? (·.1) = none := by rfl) (hK : X.K = K := by rfl) : PG X (.Tuple es k pos) (gTup K n t) := by subst hK; exact pg_tup hc h hn hst
theorem hu65 {A : Around} {k : Nat} (hr : Room k A) : A.units + 65 < cLine := by have := hr.un; omega
theorem keqD {X : Cx} {K : PySem.W.Frag} (hu : X.A.units + 64 < cLine) (h : X.K = K := by rfl) : OpR X (compareOp .Eq) (rEqD K) := by subst h; exact op_eqD hu
theorem kneD {X : Cx} {K : PySem.W.Frag} (hu : X.A.units + 64 < cLine) (h : X.K = K := by rfl) : OpR X (compareOp .NotEq) (rNeD K) := by subst h; exact op_neD hu

/-! ### defs that raise own exceptions -/
theorem kit_tyB {K : PySem.W.Frag} {B : Addr} {T : String} (hm : PySem.W.kitMeta T = true) (h : PySem.W.subIn K (.ref B) (.type T) = some true) : PySem.W.kitOne K (.ref B) (.type T) = some true := by
  unfold PySem.W.kitOne
  rw [if_neg (by rw [show ((Value.ref B : Value) == .type T) = false from rfl]; exact Bool.false_ne_true)]
  show (if PySem.W.kitMeta T = true then PySem.W.subIn K (.ref B) (.type T) else none) = some true
  rw [if_pos hm]; exact h
theorem kit_own {K : PySem.W.Frag} {B C : Addr} (h1 : PySem.W.subIn K (.ref C) (.type "BaseException") = some true) (h2 : PySem.W.typeIn K (.ref C) = some (.type "type")) (h3 : PySem.W.subIn K (.ref B) (.ref C) = some true) : PySem.W.kitOne K (.ref B) (.ref C) = some true := by
  have h0 : (PySem.W.clsIn K C).isSome = true := by
    have h1 : PySem.W.mroIn K C (.type "BaseException") = some true := h1
    unfold PySem.W.mroIn at h1
    cases e : PySem.W.clsIn K C with
    | some _ => rfl
    | none => rw [e] at h1; cases h1
  unfold PySem.W.kitOne
  split
  · rfl
  · show (if ((PySem.W.clsIn K C).isSome && PySem.W.typeIn K (.ref C) == some (.type "type")) = true then PySem.W.subIn K (.ref B) (.ref C) else none) = some true
    rw [h0, h2, h3]
    rfl
section
variable {X : Cx}
/-- C() of an own exception class without an __init__ of its own -/
theorem pmk_own0 {x : Str} {C : Addr} {bmB : List Value} {B newId initId : String} {p pos : Pos} (F : ExcBaseFacts B newId initId bmB) (q : PySem.W.excIn X.K C bmB newId = true) (gC : X.mg x = some (.ref C)) (kC : PySem.W.keepIn X.K (.ref C) = true) (r : Raises X (.ref C)) (hg : Gl X x)
    (hdb : (x == ("__debug__" : Str)) = false := by decide) : PMk X (.Call (.Name x p) [] [] pos) (fun _ H Q => Q (.ref C) none H) := by
  intro pins s σ H Q I h
  refine wpAny_Call_Name_kw (ld_glob I hg gC ?_ hdb)
  refine PySem.W.callWith_K0 I.kIn kC ?_
  show wpAny _ _ (call (.ref C) []) _ _ _
  obtain ⟨bm, N, nm, qn, bs, hdct, sn, sub, ab, col, dd, k0, k1, k2, k3, k5, mN, hC, hN, hni, T⟩ := exc_obj I.kIn q
  refine wpAny_call_exc_subT F T hC hN hni (fun h' e hm => ?_) (Nat.zero_le _)
  exact mk_of I hm r h (I.hok.gone hm.new)
end
/-- an own exception class over ValueError -/
structure ExOk (K : PySem.W.Frag) (mg : Str → Option Value) (x : Str) (C : Addr) : Prop where
  ex : PySem.W.excIn K C [.type "ValueError", .type "Exception", .type "BaseException", .type "object"] "ValueError.__new__" = true
  g : mg x = some (.ref C)
  kp : PySem.W.keepIn K (.ref C) = true
  bp : PySem.W.subIn K (.ref C) (.type "BaseException") = some true
  tp : PySem.W.typeIn K (.ref C) = some (.type "type")
  hd : PySem.W.hasDictIn K C = true
theorem ExOk.exm {K : PySem.W.Frag} {mg : Str → Option Value} {x : Str} {C : Addr} {cls : Value} {b : Bool} (e : ExOk K mg x C) (h : PySem.W.subIn K cls (.ref C) = some b) : PySem.W.exmOne K cls (.ref C) = some b := PySem.W.exm_ref e.bp e.hd e.tp h
theorem pmk_ok {X : Cx} {x : Str} {C : Addr} {p pos : Pos} (e : ExOk X.K X.mg x C) (hg : Gl X x) (hdb : (x == ("__debug__" : Str)) = false := by decide) : PMk X (.Call (.Name x p) [] [] pos) (fun _ H Q => Q (.ref C) none H) :=
  pmk_own0 PySem.F.excBase_ValueError e.ex e.g e.kp (raises_own e.bp e.tp) hg hdb
/-! the promises of such defs -/
structure CalX (P : Program) (w : World) (K : PySem.W.Frag) (mg : Str → Option Value) (base : Heap) (k : Nat) (x : Str) (sp : Sp) : Prop where
  ex : ∃ (f : Addr) (fd : FuncData) (ps : List Str), FnOk P w K mg base (L2.CX P w) k f fd ps sp ∧ mg x = some (.ref f) ∧ PySem.W.keepIn K (.ref f) = true ∧ Binds K fd ps []
structure MetX (P : Program) (w : World) (K : PySem.W.Frag) (mg : Str → Option Value) (base : Heap) (k : Nat) (C : Addr) (m : Str) (sp : Sp) : Prop where
  ex : ∃ (f : Addr) (fd : FuncData) (ps : List Str), Cls K C ∧ Meth K C m f ∧ FnOk P w K mg base (L2.CX P w) k f fd ps sp ∧ Binds K fd ps []
structure MakX (P : Program) (w : World) (K : PySem.W.Frag) (mg : Str → Option Value) (base : Heap) (k : Nat) (x : Str) (C : Addr) (sp : Sp) : Prop where
  ex : ∃ (f : Addr) (fd : FuncData) (ps : List Str), Mk K C f ∧ FnOk P w K mg base (L2.CX P w) k f fd ps sp ∧ mg x = some (.ref C) ∧ Binds K fd ps []
section
variable {P : Program} {w : World} {K : PySem.W.Frag} {mg : Str → Option Value} {base : Heap}
theorem calX {x : Str} {st : Stmt} {N ps : List Str} {k : Nat} {sp : Sp} (D : DefOk K mg x st ps) (S : FnScope N ps (defScope st)) (len : ∀ vs H Q E, sp vs H Q E → vs.length = ps.length)
    (hbody : ∀ (f : Addr) (cdv : Value) (A : Around) (outer : List Env) (s : Shared) (H : Hp) (vs : List V) (Q : VK) (E : XK), Room k (A.deeper (envOfC x (defScope st) s.heap.objs.size f cdv)) → sp vs H Q E →
      ∃ t, PSs (cxOf (L2.CX P w) P w K mg base N x (defScope st) f cdv A outer s H E) (defBody st) t ∧ t { nx := fun _ H' => Q .non H', rt := Q } (start N vs) H) : CalX P w K mg base (k + 1) x sp := by
  obtain ⟨f, fd, F, hm, b⟩ := D.ex
  exact ⟨f, fd, ps, F.okX S len (fun cdv A outer s H vs Q E hr h => hbody f cdv A outer s H vs Q E hr h), hm, F.kp, b⟩
theorem metX {C : Addr} {m qual : Str} {st : Stmt} {N ps : List Str} {k : Nat} {sp : Sp} (c : Cls K C) (D : MethOk K C m qual st ps) (S : FnScope N ps (defScope st)) (len : ∀ vs H Q E, sp vs H Q E → vs.length = ps.length)
    (hbody : ∀ (f : Addr) (cdv : Value) (A : Around) (outer : List Env) (s : Shared) (H : Hp) (vs : List V) (Q : VK) (E : XK), Room k (A.deeper (envOfC qual (defScope st) s.heap.objs.size f cdv)) → sp vs H Q E →
      ∃ t, PSs (cxOf (L2.CX P w) P w K mg base N qual (defScope st) f cdv A outer s H E) (defBody st) t ∧ t { nx := fun _ H' => Q .non H', rt := Q } (start N vs) H) : MetX P w K mg base (k + 1) C m sp := by
  obtain ⟨f, fd, M, F, b⟩ := D.ex
  exact ⟨f, fd, ps, c, M, F.okX S len (fun cdv A outer s H vs Q E hr h => hbody f cdv A outer s H vs Q E hr h), b⟩
theorem makX {C : Addr} {x qual : Str} {st : Stmt} {N ps : List Str} {k : Nat} {sp : Sp} (hm : mg x = some (.ref C)) (D : MakOk K C qual st ps) (S : FnScope N ps (defScope st)) (len : ∀ vs H Q E, sp vs H Q E → vs.length = ps.length)
    (hbody : ∀ (f : Addr) (cdv : Value) (A : Around) (outer : List Env) (s : Shared) (H : Hp) (vs : List V) (Q : VK) (E : XK), Room k (A.deeper (envOfC qual (defScope st) s.heap.objs.size f cdv)) → sp vs H Q E →
      ∃ t, PSs (cxOf (L2.CX P w) P w K mg base N qual (defScope st) f cdv A outer s H E) (defBody st) t ∧ t { nx := fun _ H' => Q .non H', rt := Q } (start N vs) H) : MakX P w K mg base (k + 1) x C sp := by
  obtain ⟨f, fd, M, F, b⟩ := D.ex
  exact ⟨f, fd, ps, M, F.okX S len (fun cdv A outer s H vs Q E hr h => hbody f cdv A outer s H vs Q E hr h), hm, b⟩
end
/-! their calls: E tells at the slots what is wished of an error -/
section
variable {X : Cx} {k j : Nat} {C : Addr} {x m : Str} {sp : Sp} {p pos apos : Pos} {e o : Expr} {es : List Expr} {ta : TE} {t : TA} {E : L2.St → XK}
theorem pe_cX (c : CalX X.prog X.w X.K X.mg X.base k x sp) (hr : Room j X.A) (hk : k ≤ j) (hg : Gl X x) (hx : ∀ σ, PassesAt (L2.CX X.prog X.w) X σ (E σ)) (ha : PA X (e :: es) t)
    (hdb : (x == ("__debug__" : Str)) = false := by decide) (he : starEach (e :: es) X.env = (false, eval e X.env) :: starEach es X.env := by rfl) (hpl : (backTo pos (starEach es X.env)).any (·.1) = false := by rfl) :
    PE X (.Call (.Name x p) (e :: es) [] pos) (tCallS sp E t) := by
  obtain ⟨f, fd, ps, F, hm, kp, b⟩ := c.ex
  exact pe_callS F (hr.mono hk) hg hm kp b hx ha hdb he hpl
/-- where nothing is raised -/
theorem pe_cXn (c : CalX X.prog X.w X.K X.mg X.base k x sp) (hr : Room j X.A) (hk : k ≤ j) (hg : Gl X x) (ha : PA X (e :: es) t)
    (hdb : (x == ("__debug__" : Str)) = false := by decide) (he : starEach (e :: es) X.env = (false, eval e X.env) :: starEach es X.env := by rfl) (hpl : (backTo pos (starEach es X.env)).any (·.1) = false := by rfl) :
    PE X (.Call (.Name x p) (e :: es) [] pos) (tCall sp [] L2.E0 t) := by
  obtain ⟨f, fd, ps, F, hm, kp, b⟩ := c.ex
  exact pe_call F (hr.mono hk) hg hm kp b .nil passL ha hdb he hpl
def tMethX (C : Addr) (m : Str) (sp : Sp) (E : L2.St → XK) (ta : TE) (t : TA) : TE := fun σ H Q => ta σ H fun x H1 => ∃ a dx fs, x = .ref a ∧ H1 a = some (.ins C dx fs) ∧ fs.lookup m = none ∧ t σ H1 fun vs H2 => sp (.ref a :: vs) H2 Q (E σ)
theorem pe_mtX {pl : Sem Bool} (c : MetX X.prog X.w X.K X.mg X.base k C m sp) (hr : Room j X.A) (hk : k ≤ j) (hx : ∀ σ, PassesAt (L2.CX X.prog X.w) X σ (E σ)) (he : PE X o ta) (ha : PA X (e :: es) t)
    (hst : starEach (e :: es) X.env = (false, eval e X.env) :: starEach es X.env := by rfl) (hpl : (backTo pos (starEach es X.env)).any (·.1) = false := by rfl)
    (ht : eval (.Call (.Attribute o m apos) (e :: es) [] pos) X.env = (do
      let ov ← eval o X.env
      standAt apos.atName
      let (f, first) ← holding [ov] (getMethod ov m pl)
      callWith pos f first (backTo pos (starEach (e :: es) X.env)) (backToKw pos (keywordEach [] X.env))) := by rfl) :
    PE X (.Call (.Attribute o m apos) (e :: es) [] pos) (tMethX C m sp E ta t) := by
  obtain ⟨f, fd, ps, hc, hm, F, b⟩ := c.ex
  refine ⟨fun pins s σ H Q I h => ?_⟩
  refine PySem.W.methodCall_KW (pl := pl) (thn (he.run pins s σ H _ I h) fun u s1 ⟨x, H1, I1, rx, a, dx, fs, ex, ea, l, q⟩ => ?_) ht
  subst ex
  obtain rfl : u = Value.ref a := rx
  refine getmeth_ok I1 ea hc hm l ?_
  refine PySem.W.callWith_K (first := [.ref a]) (h₀ := X.base) I.ok.mod.kin hm.kp (thn (ha.run pos pins s1 σ H1 _ I1 q) fun us s2 ⟨vs, H2, I2, r, q2⟩ => ⟨I2.kIn, ?_⟩) hst hpl
  exact run_fnS (us := .ref a :: us) (vs := .ref a :: vs) F (hr.mono hk) b (hx σ) I2 (.cons rfl r) q2
theorem pe_mtX0 {pl : Sem Bool} (c : MetX X.prog X.w X.K X.mg X.base k C m sp) (hr : Room j X.A) (hk : k ≤ j) (hx : ∀ σ, PassesAt (L2.CX X.prog X.w) X σ (E σ)) (he : PE X o ta)
    (ht : eval (.Call (.Attribute o m apos) [] [] pos) X.env = (do
      let ov ← eval o X.env
      standAt apos.atName
      let (f, first) ← holding [ov] (getMethod ov m pl)
      callWith pos f first (backTo pos (starEach [] X.env)) (backToKw pos (keywordEach [] X.env))) := by rfl) :
    PE X (.Call (.Attribute o m apos) [] [] pos) (tMethX C m sp E ta tNil) := by
  obtain ⟨f, fd, ps, hc, hm, F, b⟩ := c.ex
  refine ⟨fun pins s σ H Q I h => ?_⟩
  refine PySem.W.methodCall_KW (pl := pl) (thn (he.run pins s σ H _ I h) fun u s1 ⟨x, H1, I1, rx, a, dx, fs, ex, ea, l, q⟩ => ?_) ht
  subst ex
  obtain rfl : u = Value.ref a := rx
  refine getmeth_ok I1 ea hc hm l ?_
  exact PySem.W.callWith_K0 (first := [.ref a]) I1.kIn hm.kp (run_fnS (us := [.ref a]) (vs := [.ref a]) F (hr.mono hk) b (hx σ) I1 (.cons rfl .nil) q)
def tMakeX (C : Addr) (sp : Sp) (E : L2.St → XK) (t : TA) : TE := fun σ H Q => t σ H fun vs H1 => ∀ x dx, H1 x = none → H1 dx = none → dx ≠ x → sp (.ref x :: vs) (upd (upd H1 dx (.own x)) x (.ins C dx [])) (fun v H2 => v = .non ∧ Q (.ref x) H2) (E σ)
theorem run_makeX {CX : CXT} {f : Addr} {fd : FuncData} {ps : List Str} {pins : List (Addr × Obj)} {σ : L2.St} {H : Hp} {s : Shared} {Q : VK} {us : List Value} {vs : List V} {Eσ : XK} (M : Mk X.K C f) (F : FnOk X.prog X.w X.K X.mg X.base CX k f fd ps sp) (hr : Room (k + 1) X.A) (hb : Binds X.K fd ps [])
    (hx : PassesAt CX X σ Eσ) (I : Inv X pins σ H s) (r : Vals vs us)
    (h : ∀ x dx, H x = none → H dx = none → dx ≠ x → sp (.ref x :: vs) (upd (upd H dx (.own x)) x (.ins C dx [])) (fun v H2 => v = .non ∧ Q (.ref x) H2) Eσ) :
    wpAny (model X.prog X.w) X.A (call (.ref C) us) (EP X pins σ Q) X.xe s := by
  have hq := h (s.heap.objs.size + 1) s.heap.objs.size (I.hok.fresh (Nat.le_succ _)) (I.hok.fresh (Nat.le_refl _)) (Nat.ne_of_lt (Nat.lt_succ_self _))
  have I2 := Inv.made (C := C) I
  have r2 : Vals (V.ref (s.heap.objs.size + 1) :: vs) (Value.ref (s.heap.objs.size + 1) :: us) := .cons rfl r
  have hl : (Value.ref (s.heap.objs.size + 1) :: us ++ ([] : List Value)).length = ps.length := by
    have e := r2.length
    rw [F.len _ _ _ _ hq] at e
    rw [List.append_nil]
    exact e.symm
  have hb' := hb _ (Value.ref (s.heap.objs.size + 1) :: us) I2.kIn hl
  rw [List.append_nil] at hb'
  refine wpAny_call (make_map (f := f) I.kIn M.makes M.init (beq_iff_eq.mp M.fn) (codeAny_mono (F.run _ X.stack _ _ ⟨Value.ref (s.heap.objs.size + 1) :: us, []⟩ (Value.ref (s.heap.objs.size + 1) :: us) _ _ Eσ (hr.make C us [])
    (I2.env0.make C us []) hb' r2 hq) fun r s' hq' => ?_))
  cases r with
  | error e => exact hx pins _ _ e s' I2 hq'
  | ok fl =>
    cases fl with
    | ret u =>
      obtain ⟨v, H', I3, rv, ev, q3⟩ := I2.after hq'
      subst ev
      exact ⟨rv, ⟨V.ref (s.heap.objs.size + 1), H', I3, rfl, q3⟩⟩
    | next => exact False.elim hq'
    | brk => exact False.elim hq'
    | cont => exact False.elim hq'
theorem pe_mkX (c : MakX X.prog X.w X.K X.mg X.base k x C sp) (hr : Room j X.A) (hk : k + 1 ≤ j) (hg : Gl X x) (hx : ∀ σ, PassesAt (L2.CX X.prog X.w) X σ (E σ)) (ha : PA X (e :: es) t)
    (hdb : (x == ("__debug__" : Str)) = false := by decide) (he : starEach (e :: es) X.env = (false, eval e X.env) :: starEach es X.env := by rfl) (hpl : (backTo pos (starEach es X.env)).any (·.1) = false := by rfl) :
    PE X (.Call (.Name x p) (e :: es) [] pos) (tMakeX C sp E t) := by
  obtain ⟨f, fd, ps, M, F, hm, b⟩ := c.ex
  refine ⟨fun pins s σ H Q I h => ?_⟩
  refine wpAny_Call_Name_kw (ld_glob I hg hm ?_ hdb)
  refine PySem.W.callWith_K (h₀ := X.base) I.ok.mod.kin M.kp (thn (ha.run pos pins s σ H _ I h) fun us s1 ⟨vs, H1, I1, r, q⟩ => ⟨I1.kIn, ?_⟩) he hpl
  exact run_makeX M F (hr.mono hk) b (hx σ) I1 r q
/-- where nothing is let out: for the calls above in a def without errors -/
theorem no_pass : ∀ σ : L2.St, PassesAt (L2.CX X.prog X.w) X σ ((fun _ => L2.E0) σ) := fun σ pins H s e s' I c => passL pins σ H s e s' I c
end
/-- a for's body that is one try: kept together, so that for_it can name it -/
def tBody (t : TS) : TS := t
theorem pss_body {X : Cx} {b : List Stmt} {t : TS} (h : PSs X b t) : PSs X b (tBody t) := h

/-! ### own exceptions with an __init__ of their own -/
structure ExI (K : PySem.W.Frag) (mg : Str → Option Value) (x : Str) (C : Addr) : Prop where
  g : mg x = some (.ref C)
  ox : OexC K C
  xf : XfC K C
theorem ExI.exm {K : PySem.W.Frag} {mg : Str → Option Value} {x : Str} {C : Addr} {cls : Value} {b : Bool} (e : ExI K mg x C) (h : PySem.W.subIn K cls (.ref C) = some b) : PySem.W.exmOne K cls (.ref C) = some b := PySem.W.exm_ref e.ox.exC e.xf.hdC e.ox.tyC h
structure ExInit (K : PySem.W.Frag) (C : Addr) (qual : Str) (st : Stmt) (ps : List Str) : Prop where
  ex : ∃ (f : Addr) (fd : FuncData), PySem.W.findIn K (.ref C) "__init__" = some (some (.ref f)) ∧ PySem.W.typeIn K (.ref f) = some (.type "function") ∧ L2.Fun K "__init__" qual st f fd ∧ Binds K fd ps []
structure ExMk (P : Program) (w : World) (K : PySem.W.Frag) (mg : Str → Option Value) (base : Heap) (k : Nat) (x : Str) (C : Addr) (sp : Sp) : Prop where
  ex : ∃ (f : Addr) (fd : FuncData) (ps : List Str), OexC K C ∧ PySem.W.findIn K (.ref C) "__init__" = some (some (.ref f)) ∧ PySem.W.typeIn K (.ref f) = some (.type "function") ∧ FnOk P w K mg base L2.CX0 k f fd ps sp ∧ Binds K fd ps [] ∧ mg x = some (.ref C)
section
variable {P : Program} {w : World} {K : PySem.W.Frag} {mg : Str → Option Value} {base : Heap}
theorem exmk {C : Addr} {x qual : Str} {st : Stmt} {N ps : List Str} {k : Nat} {sp : Sp} (e : ExI K mg x C) (D : ExInit K C qual st ps) (S : FnScope N ps (defScope st)) (len : ∀ vs H Q E, sp vs H Q E → vs.length = ps.length)
    (hbody : ∀ (f : Addr) (cdv : Value) (A : Around) (outer : List Env) (s : Shared) (H : Hp) (vs : List V) (Q : VK) (E : XK), Room k (A.deeper (envOfC qual (defScope st) s.heap.objs.size f cdv)) → sp vs H Q E →
      ∃ t, PSs (cxOf L2.CX0 P w K mg base N qual (defScope st) f cdv A outer s H E).nox (defBody st) t ∧ t { nx := fun _ H' => Q .non H', rt := Q } (start N vs) H) : ExMk P w K mg base (k + 1) x C sp := by
  obtain ⟨f, fd, h1, h2, F, b⟩ := D.ex
  exact ⟨f, fd, ps, e.ox, h1, h2, F.ok S len (fun cdv A outer s H vs Q E hr h => hbody f cdv A outer s H vs Q E hr h), b, e.g⟩
end
theorem pmk_ei {X : Cx} {k j : Nat} {x : Str} {C : Addr} {sp : Sp} {ta : TA} {p pos : Pos} {e : Expr} {es : List Expr} (c : ExMk X.prog X.w X.K X.mg X.base k x C sp) (hr : Room j X.A) (hk : k + 1 ≤ j) (hg : Gl X x) (ha : PA X (e :: es) ta)
    (hdb : (x == ("__debug__" : Str)) = false := by decide) (he : starEach (e :: es) X.env = (false, eval e X.env) :: starEach es X.env := by rfl) (hpl : (backTo pos (starEach es X.env)).any (·.1) = false := by rfl) :
    PMk X (.Call (.Name x p) (e :: es) [] pos) (tMkO C sp [] ta) := by
  obtain ⟨f, fd, ps, T, iC, tI, F1, hb, hm⟩ := c.ex
  exact pmk_oex T iC tI F1 (hr.mono hk) hb .nil pass0 hg hm ha hdb he hpl
/-- what an __init__ of two fields leaves -/
def spInit2 (C : Addr) (f g : Str) : Sp := fun vs H Q _ => ∃ (a : Addr) (r s : V), vs = [.ref a, r, s] ∧ H a = some (exo a C none) ∧
  ∀ d, H d = none → d ≠ a → Q .non (upd (upd (upd H d (exd d [(f, r)])) a (exo a C (some d))) d (exd d [(g, s), (f, r)]))
/-- its use where it is raised -/
theorem mk_two {C : Addr} {f g : Str} {H1 : Hp} {Q : XK} {r s : V} (q : ∀ H' d, Same H1 H' → H1 d = none → H' d = some (.xd [(g, s), (f, r)]) → Q (.ref C) (some d) H') :
    ([r, s] : List V).length ≤ 1000 ∧ ∀ a, H1 a = none → spInit2 C f g (.ref a :: ([r, s] ++ [])) (upd H1 a (exo a C none)) (fun v H2 => v = .non ∧ ∃ (d : Addr) (fs : List (Str × V)), H2 a = some (exo a C (some d)) ∧ H2 d = some (exd d fs) ∧ H1 d = none ∧ Q (.ref C) (some d) (upd (del H2 a) d (.xd fs))) (fun _ _ _ => False) := by
  refine ⟨by show 2 ≤ 1000; decide, fun a ha => ⟨a, r, s, rfl, upd_same, fun d hd hne => ⟨rfl, d, [(g, s), (f, r)], ?_, upd_same, ?_, q _ d ?_ ?_ upd_same⟩⟩⟩
  · rw [upd_ne hne.symm, upd_same]
  · rw [upd_ne hne] at hd; exact hd
  · intro b o e
    have hb : b ≠ d := fun z => by rw [z] at e; rw [upd_ne hne] at hd; rw [hd] at e; cases e
    have hba : b ≠ a := fun z => by rw [z, ha] at e; cases e
    rw [upd_ne hb, del_ne hba, upd_ne hb, upd_ne hba, upd_ne hb, upd_ne hba]
    exact e
  · rw [upd_ne hne] at hd; exact hd

/-! ### an exception out of a list comprehension -/
/-- behind the block: R of the new list (or its use), or the exception passed on from this frame -/
def LcEnd (P : Program) (w : World) (Ar : Around) (en : Env) (Xe : Value → Shared → Prop) (use : Option (Value → Sem Unit)) (Qf : Value → Shared → Prop) (D : Value) (C : Addr) : Result → Shared → Prop
  | .ok _, s5 => match use with
    | none => ∃ m, s5.heap.Ns C m ∧ ∀ h5, PySem.Heap.SameBut C s5.heap h5 → Qf D { s5 with heap := h5 }
    | some u => wpAny (model P w) Ar (u D) (fun _ s6 => ∃ m, s6.heap.Ns C m ∧ ∀ h6, PySem.Heap.SameBut C s6.heap h6 → Qf .none { s6 with heap := h6 }) Xe s5
  | .error x, s5 => ∃ m, s5.heap.Ns C m ∧ ∀ h5, PySem.Heap.SameBut C s5.heap h5 → wpAny (model P w) Ar (PySem.passOn "comprehension.variables-let-go" x en : Sem Value) Qf Xe { s5 with heap := h5 }
theorem lc_runX {P : Program} {w : World} {Ar : Around} {en : Env} {Xe Qf : Value → Shared → Prop} {s0 : Shared} {elt tg iter : Expr} {ifs : List Expr} {sc : Scope} {pos po : Pos} {mk fst : Sem Value} {cl : List (Str × Addr)} {use : Option (Value → Sem Unit)}
    (h1 : ∀ x, foldedSetIterable iter en x = pure x) (h2 : closureFor sc en = pure cl) (h3 : sc.kind = .function) (h4 : ∀ x ∈ sc.names, x.2 = .local → sc.names.lookup x.1 = some .local)
    (go : wpAny (model P w) Ar fst (fun x s1 => wpAny (model P w) Ar (PySem.pyIter x) (fun it s2 => wpAny (model P w) Ar mk (fun D s3 =>
      wpAny (model P w) Ar (PySem.newFunctionEnv sc en.globals cl [] en.qual none .none (some en)) (fun ce s4 => ce.frame = en.frame ∧
        codeAny (model P w) Ar (.compStart (.ListComp elt [⟨tg, iter, ifs, 0⟩] sc pos) 0 it D { ce with scope := PySem.relabel sc en }) (LcEnd P w Ar en Xe use Qf D ce.locals) s4) Xe s3) Xe s2) Xe s1) Xe s0) :
    wpAny (model P w) Ar (PySem.comprehension (.ListComp elt [⟨tg, iter, ifs, 0⟩] sc pos) sc en po mk false fst use) Qf Xe s0 := by
  unfold PySem.comprehension
  rw [h2]
  refine wpAny_bind (wpAny_mono go (fun x s1 g1 => ?_) fun _ _ z => z)
  refine wpAny_bind (wpAny_standAt (wpAny_bind (wpAny_of_eq (h1 x) ?_)))
  refine wpAny_bind (wpAny_holding (wpAny_mono g1 (fun it s2 g2 => ?_) fun _ _ z => z))
  refine wpAny_standIf (wpAny_bind (wpAny_mono g2 (fun D s3 g3 => ?_) fun _ _ z => z))
  refine wpAny_bind (wpAny_pure (wpAny_bind (wpAny_mono g3 (fun ce s4 g4 => ?_) fun _ _ z => z)))
  obtain ⟨fr, g4⟩ := g4
  dsimp only
  refine wpAny_holding (wpAny_bind (wpAny_attempt (wpAny_holding (wpAny_run (codeAny_mono g4 fun r s5 g5 => ?_)))))
  have loc : ∀ y ∈ (sc.names.filter fun x => (x.2 == .local || x.2 == .cell) && x.1 != (".0" : Str)).reverse, y.2 = .local → Env.kindOf { ce with scope := PySem.relabel sc en } y.1 = some .local := fun y m e =>
    PySem.lookup_relabel_local (h4 y (List.mem_filter.mp (List.mem_reverse.mp m)).1 e)
  cases r with
  | ok f =>
   cases use with
   | some u =>
    have loc2 : ∀ y ∈ (sc.names.filter fun x => (x.2 == .local || x.2 == .cell) && x.1 != (".0" : Str)).reverse.drop 1 ++ (sc.names.filter fun x => (x.2 == .local || x.2 == .cell) && x.1 != (".0" : Str)).reverse.take 1, y.2 = .local → Env.kindOf { ce with scope := PySem.relabel sc en } y.1 = some .local :=
      fun y m e => loc y ((List.mem_append.mp m).elim List.mem_of_mem_drop List.mem_of_mem_take) e
    refine wpAny_bind (wpAny_rule (wpAny_bind (wpAny_holding (wpAny_mono g5 (fun _ s6 g6 => ?_) fun _ _ z => z))))
    obtain ⟨m, n6, q6⟩ := g6
    refine wpAny_bind (PySem.wpAny_comp_letGo (cenv := { ce with scope := PySem.relabel sc en }) h3 _ s6 m loc2 n6 fun h6 _ _ b6 => ?_)
    exact wpAny_pure (q6 h6 b6)
   | none =>
    obtain ⟨m, n5, q5⟩ := g5
    refine wpAny_bind (wpAny_holding (PySem.wpAny_comp_letGo (cenv := { ce with scope := PySem.relabel sc en }) h3 _ s5 m loc n5 fun h5 _ _ b5 => ?_))
    exact wpAny_pure (q5 h5 b5)
  | error x =>
    obtain ⟨m, n5, q5⟩ := g5
    refine wpAny_bind (wpAny_holding (PySem.wpAny_comp_letGo (cenv := { ce with scope := PySem.relabel sc en }) h3 _ s5 m loc n5 fun h5 _ _ b5 => ?_))
    have same : ∀ c : Env, c.frame = en.frame → (PySem.passOn "comprehension.variables-let-go" x c : Sem Value) = PySem.passOn "comprehension.variables-let-go" x en := fun c e => by
      unfold PySem.passOn
      rw [e]
    exact Eq.mpr (congrArg (fun t => wpAny (model P w) Ar t Qf Xe _) (same _ fr)) (q5 h5 b5)
/-- an exception that a call lets out within the block is passed on by the def -/
theorem lc_out {X : Cx} {E : XK} {pins : List (Addr × Obj)} {σ : L2.St} {H : Hp} {sn s9 : Shared} {C : Addr} {m : Str → Option Value} {D u : Value} {Qf E1 : Value → Shared → Prop} {use : Option (Value → Sem Unit)}
    (hs : X.stack = X.env :: X.outer) (hf : X.env.frame = some X.env.locals) (tk : Takes X (fun c d _ H => E c d H)) (I : Inv X pins σ H sn) (fp : ∀ H', H' C = none → FpOk X pins H' C) (hC : sn.heap.Ns C m) (nC : H C = none)
    (c : L2.CX X.prog X.w X.stack H sn E u s9) : wpAny (model X.prog X.w) X.A (PySem.noteFrame u X.env) (fun _ s5 => LcEnd X.prog X.w X.A X.env X.xe use Qf D C (.error u) s5) E1 s9 := by
  obtain ⟨a, B, H', cls, d, rfl, fl, hok, ub, na, os, ag, hE⟩ := c
  have hfr : X.A.frames = some (X.env :: X.outer) := by rw [I.ok.frames, hs]
  have nst : C ∉ frs X.stack := fun hm => (List.mem_cons.mp (I.stkSub C hm)).elim (fp H nC).2.1 (fp H nC).2.2.1
  obtain ⟨oC, es, ep, gC, dC, kC, fC⟩ := hC
  have nC' : H' C = none := ub.free C oC gC nC
  have f' := fp H' nC'
  have gC9 : s9.heap.get? C = some oC := fl.1 C oC (ub.keep C oC gC nC nst)
  obtain ⟨G, g1, g2⟩ := L2.restrict s9.heap fun b => ((B.get? b).isSome || decide (b ∈ frs X.stack)) && decide (b ≠ C)
  have gB : ∀ b o, b ≠ C → B.get? b = some o → G.get? b = some o := fun b o n e => (g1 b (by rw [e, decide_eq_true n]; rfl)).trans (fl.1 b o e)
  have gF : ∀ b, b ∈ frs X.stack → b ≠ C → G.get? b = s9.heap.get? b := fun b hb n => g1 b (by rw [decide_eq_true hb, decide_eq_true n]; simp)
  have og : ∀ b o, G.get? b = some o → b ≠ C ∧ s9.heap.get? b = some o ∧ ((B.get? b).isSome = true ∨ b ∈ frs X.stack) := fun b o e => by
    cases q : (((B.get? b).isSome || decide (b ∈ frs X.stack)) && decide (b ≠ C)) with
    | false => rw [g2 b q] at e; cases e
    | true =>
      rw [g1 b q] at e
      rw [Bool.and_eq_true, Bool.or_eq_true] at q
      exact ⟨of_decide_eq_true q.2, e, q.1.imp id of_decide_eq_true⟩
  have J : Inv X pins σ H' { sn with heap := G, gens := s9.gens, drawn := s9.drawn, toks := s9.toks } := by
    refine I.call' (ch := [C]) rfl ⟨fun b o e n hb hx => gB b o (by simpa using hx) (ub.keep b o e n hb), fun b o e n hb hx => ?_, fun b o e n _ => ub.free b o e n, fun b o e hx => ?_, ub.tups, ub.frzs, ub.tbls⟩ (fun b v e => ?_) ag (fun b hb => ?_)
    · obtain ⟨sl, q⟩ := ub.slot b o e hb
      exact ⟨sl, (gF b hb (by simpa using hx)).trans q⟩
    · by_cases hb : b ∈ frs X.stack
      · obtain ⟨sl, q⟩ := ub.slot b o e hb
        exact ⟨_, (gF b hb (by simpa using hx)).trans q⟩
      · obtain ⟨o', q⟩ := ub.there b o e hb
        exact ⟨o', gB b o' (by simpa using hx) q⟩
    · refine (hok b v e).stay (fun c o hc q => gB c o (fun z => ?_) q) (fun _ q => q) fun _ _ q => q
      rcases hc with hc | hc
      · rw [← hc, z, nC'] at e; cases e
      · rw [z, nC'] at hc; cases hc
    · have hb : b = C := by simpa using hb
      subst hb
      exact ⟨f'.2.2.2.1, f'.2.1, f'.2.2.2.2.1, f'.2.2.2.2.2⟩
  rw [hs] at fl
  refine HandSPX.looks_onZ Zc.steady hfr hf fl fun h1 held up1 => ?_
  rw [← hs] at held
  obtain ⟨sl, gC1⟩ := up1 C oC gC9 (fun vs z => by rw [dC] at z; cases z)
  refine ⟨m, ⟨_, es, ep, gC1, dC, kC, fC⟩, fun h5 sb => ?_⟩
  obtain ⟨kB, nB, ff, oe, vs, T, oT, ts, he, hz, hd, hv1, hnT, hTe, hT, hdT, h3⟩ := held
  have aC : a ≠ C := fun z => by
    rw [z, gC1] at he; cases he
    rw [show ({ oC with slots := sl } : Obj).data = oC.data from rfl, dC] at hd; cases hd
  have tC : T ≠ C := fun z => by
    rw [z, gC1] at hT; cases hT
    rw [show ({ oC with slots := sl } : Obj).data = oC.data from rfl, dC] at hdT; cases hdT
  have he5 := (sb.2 a aC).trans he
  obtain ⟨B2, b1, b2⟩ := L2.restrict B fun b => decide (b ≠ C)
  have bs : ∀ b o, B2.get? b = some o → b ≠ C ∧ B.get? b = some o := fun b o e => by
    by_cases n : b ≠ C
    · rw [b1 b (decide_eq_true n)] at e; exact ⟨n, e⟩
    · rw [b2 b (decide_eq_false n)] at e; cases e
  have bn : ∀ b, B.get? b = none → B2.get? b = none := fun b e => by
    cases q : B2.get? b with
    | none => rfl
    | some o => rw [(bs b o q).2] at e; cases e
  have ff5 : h5.FunFrames B2 X.stack := by
    have st : ∀ (l : List Env), h1.FunFrames B l → (∀ b ∈ frs l, b ≠ C) → h5.FunFrames B2 l := by
      intro l
      induction l with
      | nil => intro _ _; trivial
      | cons e l ih =>
        intro h n
        obtain ⟨k1, ⟨L, o, k2, k3, k4, k5⟩, k6⟩ := h
        refine ⟨k1, ⟨L, o, k2, bn L k3, (sb.2 L (n L (List.mem_filterMap.mpr ⟨e, List.mem_cons_self, k2⟩))).trans k4, k5⟩, ih k6 fun b hb => n b ?_⟩
        obtain ⟨e', m1, m2⟩ := List.mem_filterMap.mp hb
        exact List.mem_filterMap.mpr ⟨e', List.mem_cons_of_mem _ m1, m2⟩
    exact st _ ff fun b hb z => nst (by rw [← z]; exact hb)
  unfold PySem.passOn
  refine wpAny_bind (wpAny_field he5 hd hv1 ?_)
  rw [if_neg (show ¬ ((Value.ref T == Value.none) = true) from by simp)]
  have fin : wpAny (model X.prog X.w) X.A (PySem.setFlight (.ref a) X.env.frame) (fun _ s4 => wpAny (model X.prog X.w) X.A (throw (.ref a) : Sem Value) Qf X.xe s4) X.xe { s9 with heap := h5 } := by
    rw [hf]
    refine HandSPX.setFlight_anyZ (base := B2) (l := X.stack) (Z := Zc cls d) (fl := PySem.rawInt X.env.locals) (fun b o e => (sb.2 b (bs b o e).1).trans (kB b o (bs b o e).2)) ff5 ⟨oe, vs, T, oT, ts, he5, hz, hd, hv1, bn T hnT, hTe, (sb.2 T tC).trans hT, hdT, h3⟩ fun h6 k1 k2 k3 k4 => wpAny_throw (tk _ _ ?_)
    refine ⟨a, B2, _, pins, σ, H', cls, d, rfl, J, fun b o e hb => ?_, fun b o e hnf => ?_, .inr (.inr ⟨k1, bn a nB, k2, k3⟩), na, os, ag, hE⟩
    · obtain ⟨n, _, q⟩ := og b o e
      rcases q with q | q
      · obtain ⟨o', q'⟩ := Option.isSome_iff_exists.mp q
        have z := gB b o' n q'
        rw [e] at z; cases z
        rw [b1 b (decide_eq_true n)]; exact q'
      · exact absurd q hb
    · obtain ⟨n, q, _⟩ := og b o e
      obtain ⟨sl1, q1⟩ := up1 b o q hnf
      obtain ⟨sl2, q2⟩ := k4 b _ ((sb.2 b n).trans q1) hnf
      exact ⟨sl2, q2⟩
  first
    | exact wpAny_bind (wpAny_pure (wpAny_bind fin))
    | exact wpAny_bind fin
abbrev blkx (X : Cx) (s : Shared) (H : Hp) (sc : Scope) (ce : Env) (fp : List Addr) (xe : Value → Shared → Prop) : Cx := { X.blk s H sc ce fp with xe := xe }
theorem inv_blkx {X : Cx} {s s' : Shared} {H H' : Hp} {sc : Scope} {ce : Env} {fp : List Addr} {pins : List (Addr × Obj)} {σ : L2.St} (xe : Value → Shared → Prop) (I : Inv (X.blk s H sc ce fp) pins σ H' s') : Inv (blkx X s H sc ce fp xe) pins σ H' s' :=
  ⟨⟨I.ok.mod, I.ok.kind, I.ok.glob, I.ok.blt, I.ok.above, I.ok.inj, I.ok.has, I.ok.cab, I.ok.hd, I.ok.frames, I.ok.stk, I.ok.exf, I.ok.bs, I.ok.bsz, I.ok.noex, I.ok.exfs, I.ok.funs, I.ok.frf⟩,
    I.os, I.bare, I.base, I.loc, I.cell, I.free, I.freeC, I.pin, I.hok, I.len⟩
/-- [elt for target in iter if ..] in a def that lets exceptions out, E what they are to fulfil -/
theorem lc_coreX {X : Cx} {E : XK} {pins : List (Addr × Obj)} {σ : L2.St} {s : Shared} {H : Hp} {Q : VK} {use : Option (Value → Sem Unit)} {Qf : Value → Shared → Prop} {po : Pos} {elt tg iter : Expr} {ifs : List Expr} {sc : Scope} {own : List (Str × Nat)} {pos : Pos} {wi : TI} {g : TG} {tt : TT} {te : TE} (hc : X.calm = true) (hN : X.N.Nodup)
    (hst : X.stack = X.env :: X.outer) (hf : X.env.frame = some X.env.locals) (tk : Takes X (fun c d _ H => E c d H)) (hi : PI X tg iter wi) (ok : BlkOk X.N X.env.scope sc own)
    (hg : ∀ (s : Shared) (H : Hp) (C : Addr) (cl : List (Str × Addr)) (fp : List Addr) (xe : Value → Shared → Prop), PG (blkx X s H sc (PySem.compEnvC sc cl C X.env) fp xe) tg g)
    (ht : ∀ (s : Shared) (H : Hp) (C : Addr) (cl : List (Str × Addr)) (fp : List Addr) (xe : Value → Shared → Prop), PTs (blkx X s H sc (PySem.compEnvC sc cl C X.env) fp xe) ifs tt)
    (he : ∀ (s : Shared) (H : Hp) (C : Addr) (cl : List (Str × Addr)) (fp : List Addr) (xe : Value → Shared → Prop), (∀ σ, PassesAt (L2.CX X.prog X.w) (blkx X s H sc (PySem.compEnvC sc cl C X.env) fp xe) σ E) → PE (blkx X s H sc (PySem.compEnvC sc cl C X.env) fp xe) elt te)
    (hs : ∀ x, foldedSetIterable iter X.env x = pure x) (I : Inv X pins σ H s) (h : tLc wi g tt te (own.map (·.2)) σ H Q)
    (hend : ∀ D C s' m H', Inv X pins σ H' s' → Q (.ref D) H' → s'.heap.Ns C m → FpOk X pins H' C → LcEnd X.prog X.w X.A X.env X.xe use Qf (.ref D) C (.ok .next) s') :
    wpAny (model X.prog X.w) X.A (PySem.comprehension (.ListComp elt [⟨tg, iter, ifs, 0⟩] sc pos) sc X.env po (newList []) false (eval iter X.env) use) Qf X.xe s := by
  have free : ∀ y ∈ sc.names, y.2 = .free → ∃ c, X.env.cells.lookup y.1 = some c := fun y hy e => (ok.free y hy e).elim (fun k => I.ok.has _ (.inl k)) (fun k => I.ok.has _ (.inr k))
  refine lc_runX hs (closure_ok free) ok.kind (fun y hy e => by rw [ok.uniq y hy, e]) (thn (hi.run pins s σ H _ I h) fun xv s1 hx => thn hx fun itv s2 h2 => ?_)
  obtain ⟨it, fp, tn, J, H2, e, I2, T, st2, f2, q⟩ := h2
  subst e
  refine wpAny_newObj_type (newEnv_comp ?_) (by show 0 ≤ sizeLine; decide)
  refine ⟨rfl, ?_⟩
  generalize hD : s2.heap.objs.size = D
  have nD : H2 D = none := I2.hok.fresh (Nat.le_of_eq hD)
  obtain ⟨W, ⟨m0, w0⟩, turn⟩ := q D nD
  generalize hs3 : ({ s2 with heap := s2.heap.push { cls := .type "list", data := .seq ([] : List Value).toArray } } : Shared) = s3
  have h3 : s3.heap = s2.heap.push { cls := .type "list", data := .seq ([] : List Value).toArray } := by rw [← hs3]
  have old3 : ∀ b o, s2.heap.get? b = some o → s3.heap.get? b = some o := fun b o e => by rw [h3]; exact Heap.get?_push_of_some _ e
  have I3 : Inv X pins σ (upd H2 D (.lst [])) s3 := by
    rw [← hs3]
    refine I2.laid (t' := s2.toks) (fun b o e => Heap.get?_push_of_some _ e) (Nat.le_of_eq hD) ⟨Nat.zero_le _, [], 0, .nil, ?_⟩
    rw [← hD]
    exact Heap.get?_push_size _ rfl
  have f3 : ∀ b ∈ fp, FpOk X pins (upd H2 D (.lst [])) b ∧ b < s3.heap.objs.size := fun b hb => by
    obtain ⟨o, e, _⟩ := T.obj _ _ st2 b hb
    have lt := Heap.lt_size e
    refine ⟨⟨?_, (f2 b hb).2⟩, by rw [h3, Heap.size_push]; exact Nat.lt_succ_of_lt lt⟩
    rw [upd_ne (by rw [← hD]; exact Nat.ne_of_lt lt)]
    exact (f2 b hb).1
  have st3 : tn 0 s3.heap := T.keep _ _ _ st2 fun b _ o e => old3 b o e
  have I4 := block_start I3 ok hN f3
  generalize hK : (upd H2 D (.lst [])) = H3 at I3 I4 w0 f3
  generalize hcl : cellsFrom (s3.heap.objs.size + 1) sc.names (cloFrom X.env.cells sc.names []) = cl at I4 ⊢
  show codeAny _ _ (.compStart (.ListComp elt [⟨tg, iter, ifs, 0⟩] sc pos) 0 (.ref it) (.ref D) (PySem.compEnvC sc cl s3.heap.objs.size X.env)) (LcEnd X.prog X.w X.A X.env X.xe use Qf (.ref D) s3.heap.objs.size) { s3 with heap := pushCells (s3.heap.push { cls := .type "dict", data := .dict #[] }) sc.names }
  generalize hR : LcEnd X.prog X.w X.A X.env X.xe use Qf (.ref D) s3.heap.objs.size = R
  have nC : ∀ {H' : Hp}, H' s3.heap.objs.size = none → FpOk X pins H' s3.heap.objs.size := fun z => I3.fpOk (Nat.le_refl _) z
  have outer_ : ∀ {ps : List (Addr × Obj)} {σ' : L2.St} {H' : Hp} {s' : Shared} {xe : Value → Shared → Prop}, Inv (blkx X s3 H3 sc (PySem.compEnvC sc cl s3.heap.objs.size X.env) fp xe) ps σ' H' s' → Inv X pins σ H' s' := fun {ps σ' H' s' xe} K =>
    I3.call' (ch := fp) K.os K.base K.hok K.bare fun b hb => ⟨(f3 b hb).1.2.2.2.1, (f3 b hb).1.2.1, (f3 b hb).1.2.2.2.2.1, (f3 b hb).1.2.2.2.2.2⟩
  -- what the block's exceptions come to
  generalize hxe : (PySem.notedBy (model X.prog X.w) X.A (PySem.compEnvC sc cl s3.heap.objs.size X.env) fun e s' => R (.error e) s') = xe
  have pass : ∀ σ', PassesAt (L2.CX X.prog X.w) (blkx X s3 H3 sc (PySem.compEnvC sc cl s3.heap.objs.size X.env) fp xe) σ' E := fun σ' ps Hn sn e s9 K c => by
    obtain ⟨m, hn, _⟩ := K.loc
    show xe e s9
    rw [← hxe, ← hR]
    exact lc_out hst hf tk (outer_ K) (fun H' z => nC z) hn K.free c
  have I5 := inv_blkx xe I4
  have pg := hg s3 H3 s3.heap.objs.size cl fp xe
  have pt := ht s3 H3 s3.heap.objs.size cl fp xe
  have pe := he s3 H3 s3.heap.objs.size cl fp xe pass
  have cL : (PySem.compEnvC sc cl s3.heap.objs.size X.env).locals = s3.heap.objs.size := rfl
  generalize hce : PySem.compEnvC sc cl s3.heap.objs.size X.env = ce at I5 pg pt pe hxe outer_ cL ⊢
  generalize hs4 : ({ s3 with heap := pushCells (s3.heap.push { cls := .type "dict", data := .dict #[] }) sc.names } : Shared) = s4 at I5 ⊢
  have st4 : tn 0 s4.heap := T.keep _ _ _ st3 fun b _ o e => by rw [← hs4]; exact pushCells_keeps _ _ _ _ (Heap.get?_push_of_some _ e)
  have n4 : ∀ b ∈ fp, H3 b = none := fun b hb => (f3 b hb).1.1
  have fpk : ∀ {σ' : L2.St} {H' : Hp} {s' : Shared}, Inv (blkx X s3 H3 sc ce fp xe) [] σ' H' s' → (∀ b ∈ fp, H' b = none) → ∀ b ∈ fp, FpOk (blkx X s3 H3 sc ce fp xe) [] H' b := fun K n b hb =>
    ⟨n b hb, (K.ok.exf b hb).1, K.ok.exfs b hb, .inl hb, fun x c e => (K.ok.exf b hb).2 x c e, fun p hp => absurd (show p ∈ ([] : List (Addr × Obj)) ++ [] from hp) (by simp)⟩
  have loop : codeAny (model X.prog X.w) X.A (.compLoop (.ListComp elt [⟨tg, iter, ifs, 0⟩] sc pos) 0 (.ref it) (.ref D) ce) R s4 := by
    refine compLoop_any (fun n s' => ∃ i H', Inv (blkx X s3 H3 sc ce fp xe) [] (wipe σ (own.map (·.2))) H' s' ∧ tn i s'.heap ∧ (∀ b ∈ fp, H' b = none) ∧ W i n H') ?_ m0 ⟨0, H3, I5, st4, n4, w0⟩
    rintro n s5 ⟨i, H5, K5, st5, n5, w5⟩
    rw [hxe]
    rcases turn i n H5 w5 with ⟨stop, qq⟩ | ⟨goes, Nx, hNx, step⟩
    · have td := T.done (blkx X s3 H3 sc ce fp xe) rfl rfl rfl hc i [] s5 _ H5 xe K5 (fpk K5 n5) st5 stop
      refine thn td fun r s6 ⟨hr, K6⟩ => ?_
      subst hr
      obtain ⟨m, hn, _⟩ := K6.loc
      have z : H5 ce.locals = none := K6.free
      rw [cL] at z hn
      show R (.ok .next) s6
      rw [← hR]
      exact hend D _ s6 m H5 (outer_ K6) qq hn (nC z)
    · have ti := T.item (blkx X s3 H3 sc ce fp xe) rfl rfl rfl hc i [] s5 _ H5 xe K5 (fpk K5 n5) st5 goes
      refine thn ti fun r s6 ⟨u, hr, h6⟩ => ?_
      subst hr
      refine thn h6 fun _ s7 ⟨x, H7, K7, r7, y7, st7, n7⟩ => ?_
      have K7' := K7.pinned (fpk K7 n7) (T.obj _ _ st7)
      refine thn (pg.run _ s7 _ H7 x u _ K7' r7 (step x H7 y7)) fun _ s8 ⟨σ8, H8, K8, hw8, q8⟩ => ?_
      refine thn (pt.run _ s8 σ8 H8 _ K8 q8) fun b s9 ⟨H9, K9, q9⟩ => ?_
      have fin : ∀ {s' : Shared} {H' : Hp}, Inv (blkx X s3 H3 sc ce fp xe) ([] ++ pinsAt fp s7.heap) σ8 H' s' → Nx H' → ∃ m, m < n ∧ ∃ i H', Inv (blkx X s3 H3 sc ce fp xe) [] (wipe σ (own.map (·.2))) H' s' ∧ tn i s'.heap ∧ (∀ b ∈ fp, H' b = none) ∧ W i m H' := fun {s' H'} K nx => by
        obtain ⟨m', lt, w'⟩ := hNx H' nx
        have pinned : ∀ b ∈ fp, ∀ o, s7.heap.get? b = some o → s'.heap.get? b = some o ∧ H' b = none := fun b hb o e =>
          let z := K.pin (b, o) (List.mem_append_right _ (List.mem_append_right _ (mem_pinsAt hb e)))
          ⟨z.1, z.2.1⟩
        have len : (wipe σ (own.map (·.2))).length = σ8.length := by rw [← hw8, wipe_length]
        refine ⟨m', lt, i + 1, H', (K.unpinned (pins := [])).weak len (fun j v e => ?_), T.keep _ _ _ st7 fun b hb o e => (pinned b hb o e).1, fun b hb => ?_, w'⟩
        · rw [← hw8] at e
          exact (wipe_some e).1
        · obtain ⟨o, e, _⟩ := T.obj _ _ st7 b hb
          exact (pinned b hb o e).2
      cases b with
      | false =>
        simp only [Bool.false_eq_true, if_false] at q9 ⊢
        exact fin K9 q9
      | true =>
        simp only [if_true] at q9 ⊢
        refine thn (pe.run _ s9 σ8 H9 _ K9 q9) fun z s10 ⟨yv, H10, K10, r10, acc, hD10, hz10, nx⟩ => ?_
        exact app_ok (X := blkx X s3 H3 sc ce fp xe) K10 hD10 hz10 r10 fun s11 K11 => fin K11 nx
  exact codeAny_compStart_list loop (T.self X.A 0 _ _ _ st4 loop)
theorem pe_lcX {X : Cx} {E : XK} {elt tg iter : Expr} {ifs : List Expr} {sc : Scope} {own : List (Str × Nat)} {pos : Pos} {wi : TI} {g : TG} {tt : TT} {te : TE} (hc : X.calm = true) (hN : X.N.Nodup)
    (hst : X.stack = X.env :: X.outer) (hf : X.env.frame = some X.env.locals) (tk : Takes X (fun c d _ H => E c d H)) (hi : PI X tg iter wi) (ok : BlkOk X.N X.env.scope sc own)
    (hg : ∀ (s : Shared) (H : Hp) (C : Addr) (cl : List (Str × Addr)) (fp : List Addr) (xe : Value → Shared → Prop), PG (blkx X s H sc (PySem.compEnvC sc cl C X.env) fp xe) tg g)
    (ht : ∀ (s : Shared) (H : Hp) (C : Addr) (cl : List (Str × Addr)) (fp : List Addr) (xe : Value → Shared → Prop), PTs (blkx X s H sc (PySem.compEnvC sc cl C X.env) fp xe) ifs tt)
    (he : ∀ (s : Shared) (H : Hp) (C : Addr) (cl : List (Str × Addr)) (fp : List Addr) (xe : Value → Shared → Prop), (∀ σ, PassesAt (L2.CX X.prog X.w) (blkx X s H sc (PySem.compEnvC sc cl C X.env) fp xe) σ E) → PE (blkx X s H sc (PySem.compEnvC sc cl C X.env) fp xe) elt te)
    (hs : ∀ x, foldedSetIterable iter X.env x = pure x := by intro _; rfl) : PE X (.ListComp elt [⟨tg, iter, ifs, 0⟩] sc pos) (tLc wi g tt te (own.map (·.2))) := by
  refine ⟨fun pins s σ H Q I h => ?_⟩
  rw [PySem.eval_ListComp]
  refine lc_coreX hc hN hst hf tk hi ok hg ht he hs I h fun D C s6 m H5 J q hn fp => ⟨m, hn, fun h5 sb => ?_⟩
  obtain ⟨e0, e1, e2, e3, e4, e5⟩ := fp
  exact ⟨.ref D, H5, J.turned (t' := s6.toks) (fun b o hb e => (sb.2 b hb).trans e) e0 e1 e3 e4 e5, rfl, q⟩
/-- name = [..] on one line, the name a local -/
theorem ps_setLcX {X : Cx} {E : XK} {i : Nat} {y : Str} {py spos : Pos} {elt tg iter : Expr} {ifs : List Expr} {sc : Scope} {own : List (Str × Nat)} {pos : Pos} {wi : TI} {g : TG} {tt : TT} {te : TE} (hc : X.calm = true) (hN : X.N.Nodup)
    (hy : X.N[i]? = some y) (hyl : X.env.scope.names.lookup y = some .local) (hsw : swapsWith (.ListComp elt [⟨tg, iter, ifs, 0⟩] sc pos) (some (.Name y py)) spos.line X.env = pure true)
    (hst : X.stack = X.env :: X.outer) (hf : X.env.frame = some X.env.locals) (tk : Takes X (fun c d _ H => E c d H)) (hi : PI X tg iter wi) (ok : BlkOk X.N X.env.scope sc own)
    (hg : ∀ (s : Shared) (H : Hp) (C : Addr) (cl : List (Str × Addr)) (fp : List Addr) (xe : Value → Shared → Prop), PG (blkx X s H sc (PySem.compEnvC sc cl C X.env) fp xe) tg g)
    (ht : ∀ (s : Shared) (H : Hp) (C : Addr) (cl : List (Str × Addr)) (fp : List Addr) (xe : Value → Shared → Prop), PTs (blkx X s H sc (PySem.compEnvC sc cl C X.env) fp xe) ifs tt)
    (he : ∀ (s : Shared) (H : Hp) (C : Addr) (cl : List (Str × Addr)) (fp : List Addr) (xe : Value → Shared → Prop), (∀ σ, PassesAt (L2.CX X.prog X.w) (blkx X s H sc (PySem.compEnvC sc cl C X.env) fp xe) σ E) → PE (blkx X s H sc (PySem.compEnvC sc cl C X.env) fp xe) elt te)
    (hs : ∀ x, foldedSetIterable iter X.env x = pure x := by intro _; rfl) : PS X (.Assign [.Name y py] (.ListComp elt [⟨tg, iter, ifs, 0⟩] sc pos) spos) (tAsg (tLc wi g tt te (own.map (·.2))) (gName i)) := by
  refine ⟨fun pins s σ H D I h => ?_⟩
  rw [PySem.exec_Assign_Name_used _ _ _ _ hsw]
  refine wpAny_bind (wpAny_standAt (wpAny_bind ?_))
  have h : tLc wi g tt te (own.map (·.2)) σ H (fun x H1 => gName i x σ H1 D.nx) := h
  refine wpAny_bind (thn (lc_coreX (Qf := fun _ s' => SP X pins D .next s') (use := some (assign (.Name y py) X.env)) hc hN hst hf tk hi ok hg ht he hs I h fun L C s6 m H5 J q hn fp => ?_) fun _ _ z => wpAny_pure (wpAny_pure z))
  refine wpAny_assign_Name (store_ok2 (v := V.ref L) J hN hy (.inl hyl) rfl (fun s7 J7 ⟨a, sb, ha⟩ => ?_) (.inr hyl))
  obtain ⟨e0, e1, e2, e3, e4, e5⟩ := fp
  have ne : C ≠ a := ha.elim (fun z => by rw [z]; exact e1) (fun z e => e4 y a z e.symm)
  exact ⟨m, hn.sameBut sb ne, fun h5 sb5 => ⟨_, H5, J7.turned (t' := s7.toks) (fun b o hb e => (sb5.2 b hb).trans e) e0 e1 e3 e4 e5, q⟩⟩

/-! ### zip of a tuple and a list -/
def ItzM (K : PySem.W.Frag) (a b : Addr) : It where
  go i H := ∃ (xs ys : List V) (x y : V), SqT K H a xs ∧ SqL K H b ys ∧ xs[i]? = some x ∧ ys[i]? = some y
  yld i H v H' := ∃ T x y, v = .ref T ∧ H T = none ∧ H' = upd H T (.tup [x, y]) ∧ (∀ xs, SqT K H a xs → xs[i]? = some x) ∧ ∀ ys, SqL K H b ys → ys[i]? = some y
  stop i H := ∃ (xs ys : List V), SqT K H a xs ∧ SqL K H b ys ∧ i ≤ xs.length ∧ i ≤ ys.length ∧ (i = xs.length ∨ i = ys.length)
/-- the cells of such a zip at its turn i -/
def ZmAt (z TI TO i1 i2 a b : Addr) (i : Nat) (h : Heap) : Prop :=
  PySem.IsZip h z TI TO .none ∧ PySem.IsTupOf2 h TI (.ref i1) (.ref i2) ∧ (∃ x y, PySem.IsTupOf2 h TO x y) ∧ h.IsTupleIter i1 a i ∧ h.IsListIter i2 b i
theorem ZmAt.there {z TI TO i1 i2 a b : Addr} {i : Nat} {h : Heap} (st : ZmAt z TI TO i1 i2 a b i h) : ∀ c ∈ [z, TI, TO, i1, i2], ∃ o, h.get? c = some o ∧ ∀ v, o.data ≠ .cell v := by
  obtain ⟨s1, s2, ⟨x, y, s3⟩, ⟨o4, s4, _, d4⟩, ⟨o5, s5, _, d5⟩⟩ := st
  intro c m
  simp only [List.mem_cons, List.not_mem_nil, or_false] at m
  rcases m with rfl | rfl | rfl | rfl | rfl
  · exact ⟨_, s1, fun v q => nomatch q⟩
  · exact ⟨_, s2, fun v q => nomatch q⟩
  · exact ⟨_, s3, fun v q => nomatch q⟩
  · exact ⟨o4, s4, fun v q => by rw [d4] at q; cases q⟩
  · exact ⟨o5, s5, fun v q => by rw [d5] at q; cases q⟩
theorem turn_zipM {P : Program} {w : World} {K : PySem.W.Frag} {elts : List Expr} {kk : Nat} {tp : Pos} {a b z TI TO i1 i2 : Addr} (S : PySem.ZipSep2 z TI TO i1 i2 [i1, a] [i2, b]) (na : a ≠ i1) (nb : b ≠ i2) :
    Turn P w K (.Tuple elts kk tp) (ItzM K a b) [z, TI, TO, i1, i2] z (ZmAt z TI TO i1 i2 a b) where
  mem := List.mem_cons_self
  obj := fun _ _ st => st.there
  keep := fun i h h' st k => by
    obtain ⟨s1, s2, ⟨x, y, s3⟩, s4, s5⟩ := st
    exact ⟨k z (by simp) _ s1, k TI (by simp) _ s2, ⟨x, y, k TO (by simp) _ s3⟩, s4.at (k i1 (by simp)), s5.at (k i2 (by simp))⟩
  item := by
    intro X e1 e2 e3 hc i pins s σ H E I hf st hg
    subst e1; subst e2; subst e3
    have old := st.there
    obtain ⟨s1, s2, ⟨x0, y0, s3⟩, s4, s5⟩ := st
    obtain ⟨xs, ys, x, y, qx, qy, gx, gy⟩ := hg
    obtain ⟨us, rx, px, _⟩ := I.tuple qx
    obtain ⟨vs, ry, py, _⟩ := I.list qy
    obtain ⟨u, hu, ru⟩ := rx.get gx
    obtain ⟨v, hv, rv⟩ := ry.get gy
    have hA : X.A.in1.handled = none := I.ok.hd hc
    have lu := (List.getElem?_eq_some_iff.mp hu).1
    have lv := (List.getElem?_eq_some_iff.mp hv).1
    refine PySem.wpAny_pyNext_zipD2_item S (PySem.Draws.tuple hA i1 a na us.toArray) (PySem.Draws.list hA i2 b nb vs.toArray) s1 s2 s3 ⟨s4, px⟩ ⟨s5, py.isList⟩ (by simpa using lu) (by simpa using lv) fun u1 v1 h1 tk gu gv z1 O1 t1 t2 new sz keep => ?_
    have eu : u1 = u := by
      have gu : us.toArray[i]? = some u1 := gu
      rw [List.getElem?_toArray, hu] at gu; exact (Option.some.inj gu).symm
    have ev : v1 = v := by
      have gv : vs.toArray[i]? = some v1 := gv
      rw [List.getElem?_toArray, hv] at gv; exact (Option.some.inj gv).symm
    subst eu; subst ev
    refine ⟨_, rfl, wpAny_letOwnedTupleGo_zip (s := { s with heap := h1, toks := tk }) z1 fun h2 z2 sb => ?_⟩
    have zlt := Heap.lt_size s1
    have stays : ∀ c o, c ∉ [z, TI, TO, i1, i2] → s.heap.get? c = some o → h2.get? c = some o := fun c o nc e => by
      simp only [List.mem_cons, List.not_mem_nil, or_false, not_or] at nc
      exact (sb.2 c nc.1).trans (keep c o nc.1 nc.2.2.1 nc.2.2.2.1 nc.2.2.2.2 e)
    have new2 : h2.get? s.heap.objs.size = some { cls := .type "tuple", data := .seq #[u1, v1] } := (sb.2 _ (Nat.ne_of_gt zlt)).trans new
    have J : Inv X pins σ (upd H s.heap.objs.size (.tup [x, y])) { s with heap := h2, toks := tk } :=
      I.turnedNew (ch := [z, TI, TO, i1, i2]) stays hf (Nat.le_refl _) ⟨by show 2 ≤ sizeLine; decide, [u1, v1], .cons ru (.cons rv .nil), ⟨_, new2, rfl, _, rfl⟩⟩
    refine ⟨.ref s.heap.objs.size, _, J, rfl, ⟨_, x, y, rfl, I.hok.fresh (Nat.le_refl _), rfl, fun l hl => by rw [I.tuple_inj hl qx]; exact gx, fun l hl => by rw [I.list_inj hl qy]; exact gy⟩, ⟨z2, ?_, ⟨u1, v1, ?_⟩, ?_, ?_⟩, fun c m => ?_⟩
    · exact (sb.2 _ S.TIz).trans (keep _ _ S.TIz S.TITO S.TIi1 S.TIi2 s2)
    · exact (sb.2 _ S.TOz).trans O1
    · exact t1.1.at fun o e => (sb.2 _ S.zi1.symm).trans e
    · exact t2.1.at fun o e => (sb.2 _ S.zi2.symm).trans e
    · obtain ⟨o, e, _⟩ := old c m
      rw [upd_ne (Nat.ne_of_lt (Heap.lt_size e))]
      exact (hf c m).1
  done := by
    intro X e1 e2 e3 hc i pins s σ H E I hf st hg
    subst e1; subst e2; subst e3
    obtain ⟨s1, s2, ⟨x0, y0, s3⟩, s4, s5⟩ := st
    obtain ⟨xs, ys, qx, qy, l1, l2, hend⟩ := hg
    obtain ⟨us, rx, px, _⟩ := I.tuple qx
    obtain ⟨vs, ry, py, _⟩ := I.list qy
    have hA : X.A.in1.handled = none := I.ok.hd hc
    have k1 := rx.length
    have k2 := ry.length
    refine PySem.wpAny_pyNext_zipD2_end S (PySem.Draws.tuple hA i1 a na us.toArray) (PySem.Draws.list hA i2 b nb vs.toArray) s1 s2 s3 ⟨s4, px⟩ ⟨s5, py.isList⟩ (by simp; omega) (by simp; omega) (by simp; omega) fun h1 tk keep => ?_
    refine ⟨rfl, I.turnedL (ch := [z, TI, TO, i1, i2]) (fun c o nc e => ?_) hf⟩
    simp only [List.mem_cons, List.not_mem_nil, or_false, not_or] at nc
    exact keep c o nc.1 nc.2.2.1 nc.2.2.2.1 nc.2.2.2.2 e
  self := fun A i s Q E st h => PySem.wpAny_pyIter_zip st.1 h
def iZipM (K : PySem.W.Frag) (ta : TA) : TI := fun σ H R => ta σ H fun vs H1 => ∃ (a b : Addr) (xs ys : List V), vs = [.ref a, .ref b] ∧ SqT K H1 a xs ∧ SqL K H1 b ys ∧ R (ItzM K a b) H1
theorem pi_zipM {X : Cx} {e e2 : Expr} {ta : TA} {p pos tp : Pos} {elts : List Expr} {kk : Nat} (hg : Gl X "zip") (hm : X.mg "zip" = none) (ha : PA X [e, e2] ta)
    (s1 : starEach [e, e2] X.env = (false, eval e X.env) :: starEach [e2] X.env := by rfl) (s2 : (backTo pos (starEach [e2] X.env)).any (·.1) = false := by rfl) :
    PI X (.Tuple elts kk tp) (.Call (.Name "zip" p) [e, e2] [] pos) (iZipM X.K ta) := by
  refine ⟨fun pins s σ H R I h => ?_⟩
  refine Call_ (ld_blt I hg hm PyProof.Rows.boot_zip (PyProof.Rows.callWith_type1 (thn (ha.run pos pins s σ H _ I h) fun us s3 ⟨vs, H1, I1, r1, q1⟩ => ?_) s1 s2))
  obtain ⟨a, b, xs, ys, ev, qx, qy, q⟩ := q1
  subst ev
  cases r1 with
  | cons ra rr =>
    cases rr with
    | cons rb rr =>
      cases rr
      cases ra
      cases rb
      obtain ⟨cs, rx, px, _⟩ := I1.tuple qx
      obtain ⟨ds, ry, py, _⟩ := I1.list qy
      have la : a < s3.heap.objs.size := by obtain ⟨o, g, _⟩ := id px; exact Heap.lt_size g
      have lb : b < s3.heap.objs.size := py.lt
      refine PySem.zip_begins2 (PySem.begins_tuple a cs.toArray) (PySem.begins_list b ds.toArray) px py.isList fun h1 z1 t1 o1 g1 g2 sz keep => PySem.wpAny_pyIter_zip z1 ?_
      have J : Inv X pins σ H1 { s3 with heap := h1 } := I1.kept (t' := s3.toks) keep
      have S := PySem.zip_sep2 (N := s3.heap.objs.size) (fp1 := [a]) (fp2 := [b]) (fun c m => by rw [List.mem_singleton.mp m]; exact la) (fun c m => by rw [List.mem_singleton.mp m]; exact lb)
      refine ⟨s3.heap.objs.size + 4, [s3.heap.objs.size + 4, s3.heap.objs.size + 2, s3.heap.objs.size + 3, s3.heap.objs.size, s3.heap.objs.size + 1], _, _, H1, rfl, J,
        turn_zipM S (Nat.ne_of_lt la) (Nat.ne_of_lt (Nat.lt_succ_of_lt lb)), ⟨z1, t1, ⟨_, _, o1⟩, ⟨_, g1, rfl, rfl⟩, ⟨_, g2, rfl, rfl⟩⟩, fun c m => ?_, q⟩
      have le : s3.heap.objs.size ≤ c := by
        simp only [List.mem_cons, List.not_mem_nil, or_false] at m
        rcases m with rfl | rfl | rfl | rfl | rfl
        · exact Nat.le_add_right _ _
        · exact Nat.le_add_right _ _
        · exact Nat.le_add_right _ _
        · exact Nat.le_refl _
        · exact Nat.le_add_right _ _
      exact I1.fpOk le (I1.hok.fresh le)
theorem walk_zipM {K : PySem.W.Frag} {a b : Addr} {xs ys : List V} {n : Nat} (hn : n = min xs.length ys.length) : Walk (ItzM K a b) n (fun H => SqT K H a xs ∧ SqL K H b ys) (YPair (fun i => xs[i]?) (fun i => ys[i]?)) := by
  subst hn
  refine ⟨fun i _ hi g => ?_, fun _ g => ⟨xs, ys, g.1, g.2, by omega, by omega, by omega⟩, fun i H v H' _ g y => ?_⟩
  · have h1 : i < xs.length := by omega
    have h2 : i < ys.length := by omega
    exact ⟨xs, ys, xs[i], ys[i], g.1, g.2, by simp [h1], by simp [h2]⟩
  · obtain ⟨T, x, z, e1, e2, e3, e4, e5⟩ := y
    exact ⟨T, x, z, e1, e2, e3, e4 xs g.1, e5 ys g.2⟩

/-! ### x.translate({37: None}) of an ASCII text: the sign with code 37 is left out -/
section
open PySem PySem.Builtin PySem.Builtin.Str
/-- what the table tells of a sign -/
def Tl37 {prog : Program} {w : World} (f : Key → Option Value) : Prop := ∀ c : Nat, f (Sum.inl (c : Int)) = if c = 37 then some Value.none else none
theorem mapOfK {prog : Program} {w : World} {h h' : Heap} {a : Addr} {f : Key → Option Value} (m : h.MapOf (mixKind prog w) a f) (k : ∀ b o, h.get? b = some o → h'.get? b = some o) : h'.MapOf (mixKind prog w) a f := by
  obtain ⟨o, es, ep, ho, r⟩ := m
  exact ⟨o, es, ep, k _ _ ho, r⟩
theorem tl37 {prog : Program} {w : World} {A : Around} {E : Value → Shared → Prop} {s : Shared} {d : Addr} {c : Nat} {f : Key → Option Value} {Q : Mapped → Shared → Prop} (hh : A.handled = none) (hd : (d == sysModules) = false) (hm : s.heap.MapOf (mixKind prog w) d f) (hk : Tl37 (prog := prog) (w := w) f)
    (h1 : c = 37 → ∀ h' k, (∀ b o, s.heap.get? b = some o → h'.get? b = some o) → Q .drop { s with heap := h', toks := k })
    (h2 : c ≠ 37 → ∀ h' k, (∀ b o, s.heap.get? b = some o → h'.get? b = some o) → Q .keep { s with heap := h', toks := k }) : wpAny (model prog w) A (tableLookup (.ref d) c) Q E s := by
  unfold tableLookup
  refine wpAny_bind (wpAny_attempt (wpAny_bind (wpAny_mkInt ?_)))
  have hf := hk c
  by_cases hc : c = 37
  · rw [if_pos hc] at hf
    refine wpAny_getItem_of (knd := mixKind prog w) (k := Sum.inl (c : Int)) (mixKind_int prog w _ _) hm hf ?_
    exact wpAny_pure (h1 hc s.heap _ fun _ _ e => e)
  · rw [if_neg hc] at hf
    refine wpAny_getItem_missing_of (knd := mixKind prog w) (k := Sum.inl (c : Int)) (mixKind_int prog w _ _) hd hh hm hf fun h' e hx => ?_
    show wpAny _ _ (do let b ← isInstance (.ref e) (.type "LookupError"); _) _ _ _
    obtain ⟨ob, t, ho, hc2, _⟩ := hx.there
    refine wpAny_bind (wpAny_isInstance (T := "KeyError") (b := true) ⟨ob, ho, hc2⟩ (by first | rfl | kernel_rfl) ?_)
    show wpAny _ _ (if true = true then (do rule "str.translate.not-in-table"; pure Mapped.keep) else _) _ _ _
    rw [if_pos rfl]
    exact wpAny_bind (wpAny_rule (wpAny_pure (h2 hc h' _ hx.keeps)))
theorem pieces37 : ∀ (l : List Nat) (acc : Array Nat), List.foldl (fun acc (p : Str) => acc ++ p.cps) acc (l.map fun c => (⟨#[c]⟩ : Str)) = acc ++ l.toArray
  | [], acc => by
    show acc = acc ++ #[]
    rw [Array.append_empty]
  | c :: l, acc => by
    rw [List.map_cons, List.foldl_cons, pieces37 l]
    apply Array.toList_inj.mp
    simp
theorem look_new {c c' : Nat} {a b : Option Nat} {known : List (Nat × Option Nat)} (h : List.lookup c' ((c, a) :: known) = some b) : (c' = c ∧ b = a) ∨ List.lookup c' known = some b := by
  rw [List.lookup_cons] at h
  by_cases e : c' = c
  · rw [e, beq_self_eq_true] at h
    exact Or.inl ⟨e, (Option.some.inj h).symm⟩
  · have e2 : (c' == c) = false := beq_eq_false_iff_ne.mpr e
    rw [e2] at h
    exact Or.inr h
def out37 (l : List Nat) : List Nat := l.filter (fun c => decide (c ≠ 37))
def an37 (c : Nat) : Option Nat := if c = 37 then none else some c
/-- what stands while the signs are walked -/
def Tr37 (x : List Nat) (s : Shared) (rest : List Nat) (st : List Str × Nat × Bool × List (Nat × Option Nat) × Bool) (s' : Shared) : Prop :=
  ∃ (past : List Nat) (pieces : List Str) (known : List (Nat × Option Nat)) (h' : Heap) (k : Nat), x = past ++ rest ∧ st = (pieces, (out37 past).length, true, known, false) ∧ pieces.reverse = (out37 past).map (fun c => (⟨#[c]⟩ : Str)) ∧
    (∀ c a, List.lookup c known = some a → a = an37 c) ∧ s' = { s with heap := h', toks := k } ∧ ∀ b o, s.heap.get? b = some o → h'.get? b = some o
theorem Tr37.keep {x : List Nat} {s : Shared} {rest past : List Nat} {c : Nat} {pieces : List Str} {known : List (Nat × Option Nat)} {h' : Heap} {k : Nat} (hc : c ≠ 37) (h1 : x = past ++ c :: rest)
    (h3 : pieces.reverse = (out37 past).map (fun c => (⟨#[c]⟩ : Str))) (h4 : ∀ c a, List.lookup c known = some a → a = an37 c) (h6 : ∀ b o, s.heap.get? b = some o → h'.get? b = some o) :
    Tr37 x s rest (⟨#[c]⟩ :: pieces, (out37 past).length + 1, true, known, false) { s with heap := h', toks := k } := by
  have e : out37 (past ++ [c]) = out37 past ++ [c] := by
    unfold out37
    rw [List.filter_append, List.filter_cons_of_pos (by simpa using hc), List.filter_nil]
  refine ⟨past ++ [c], ⟨#[c]⟩ :: pieces, known, h', k, ?_, ?_, ?_, h4, rfl, h6⟩
  · rw [h1, List.append_assoc] <;> rfl
  · rw [e, List.length_append] <;> rfl
  · rw [e, List.reverse_cons, h3, List.map_append] <;> rfl
theorem Tr37.drop {x : List Nat} {s : Shared} {rest past : List Nat} {c : Nat} {pieces : List Str} {known : List (Nat × Option Nat)} {h' : Heap} {k : Nat} (hc : c = 37) (h1 : x = past ++ c :: rest)
    (h3 : pieces.reverse = (out37 past).map (fun c => (⟨#[c]⟩ : Str))) (h4 : ∀ c a, List.lookup c known = some a → a = an37 c) (h6 : ∀ b o, s.heap.get? b = some o → h'.get? b = some o) :
    Tr37 x s rest (pieces, (out37 past).length, true, known, false) { s with heap := h', toks := k } := by
  have e : out37 (past ++ [c]) = out37 past := by
    unfold out37
    rw [List.filter_append, List.filter_cons_of_neg (by simpa using hc), List.filter_nil, List.append_nil]
  refine ⟨past ++ [c], pieces, known, h', k, ?_, ?_, ?_, h4, rfl, h6⟩
  · rw [h1, List.append_assoc] <;> rfl
  · rw [e]
  · rw [e]; exact h3
theorem meets_tr37 {prog : Program} {w : World} (x : List Nat) (t : Tok) (d : Addr) (hd : (d == sysModules) = false) (hz : x.length ≤ 16000000) (ha : ∀ c ∈ x, c < 128) : MeetsIn prog w («str.translate» ⟨[.str (SX.S x) t, .ref d], []⟩) (fun A R s =>
    A.handled = none ∧ (∃ f, s.heap.MapOf (mixKind prog w) d f ∧ Tl37 (prog := prog) (w := w) f) ∧ ∀ (v : Value) (h' : Heap) (k : Nat), (∀ b o, s.heap.get? b = some o → h'.get? b = some o) → (∃ t', v = .str (SX.S (out37 x)) t') → R (.ok (.ret v)) { s with heap := h', toks := k }) := by
  refine .of_wp fun A R s h => ?_
  obtain ⟨hh, ⟨f, hm, hk⟩, h⟩ := h
  have hh1 : A.in1.handled = none := hh
  show wpAny _ _ (if ((SX.S x).length == 0) = true then (do rule "str.translate.empty"; ret (.str (SX.S x) t)) else (do
    let st ← forIn (SX.S x).cps (([], 0, (SX.S x).cps.all fun y => decide (y < 128), [], false) : List Str × Nat × Bool × List (Nat × Option Nat) × Bool) _
    _)) _ _ s
  by_cases h0 : ((SX.S x).length == 0) = true
  · rw [if_pos h0]
    have hx : x = [] := by
      rw [beq_iff_eq, SX.S_len] at h0
      exact List.eq_nil_of_length_eq_zero h0
    subst hx
    exact wpAny_bind (wpAny_rule (wpAny_pure ⟨_, rfl, h _ s.heap s.toks (fun _ _ e => e) ⟨t, rfl⟩⟩))
  · rw [if_neg h0]
    have hfast : ((SX.S x).cps.all fun y => decide (y < 128)) = true := by
      rw [← Array.all_toList]
      show (x.toArray.toList.all _) = true
      rw [List.toList_toArray, List.all_eq_true]
      exact fun c hc => decide_eq_true (ha c hc)
    rw [hfast]
    refine wpAny_bind (MeetsSeq2.wpAny_forIn_array _ (Tr37 x s) _ (fun c rest st s' hI => ?turn) (fun st s' hI => ?fin) (SX.S x).cps ([], 0, true, [], false) ?h0)
    case h0 =>
      refine ⟨[], [], [], s.heap, s.toks, ?_, rfl, rfl, fun c a z => ?_, rfl, fun _ _ e => e⟩
      · show x = [] ++ x.toArray.toList
        rw [List.toList_toArray, List.nil_append]
      · rw [List.lookup_nil] at z
        cases z
    case turn =>
      obtain ⟨past, pieces, known, h', k, e1, e2, e3, e4, e5, e6⟩ := hI
      subst e2
      subst e5
      have hpl : (out37 past).length ≤ 16000000 := by
        have q := congrArg List.length e1
        rw [List.length_append] at q
        exact Nat.le_trans (List.length_filter_le _ _) (by omega)
      have hm' : ({ s with heap := h', toks := k } : Shared).heap.MapOf (mixKind prog w) d f := mapOfK hm e6
      show wpAny _ _ (if tooLong (out37 past).length = true then _ else (if true = true then _ else _)) _ _ _
      rw [show tooLong (out37 past).length = false from PyProof.Rows.short24 (by omega), if_neg Bool.false_ne_true]
      rw [if_pos rfl]
      cases hl : List.lookup c known with
      | some a =>
        have ha2 := e4 c a hl
        subst ha2
        refine wpAny_bind (wpAny_pure ?_)
        by_cases hc : c = 37
        · have e : an37 c = none := if_pos hc
          rw [e]
          exact wpAny_pure (Tr37.drop hc e1 e3 e4 e6)
        · have e : an37 c = some c := if_neg hc
          rw [e]
          exact wpAny_pure (Tr37.keep hc e1 e3 e4 e6)
      | none =>
        have new : ∀ b, b = an37 c → ∀ c' a, List.lookup c' ((c, b) :: known) = some a → a = an37 c' := fun b hb c' a z => by
          rcases look_new z with ⟨q1, q2⟩ | q
          · rw [q2, hb, q1]
          · exact e4 c' a q
        refine wpAny_bind (tl37 hh1 hd hm' hk (fun hw h2 k2 k3 => ?_) (fun hw h2 k2 k3 => ?_))
        · have e : an37 c = none := if_pos hw
          refine wpAny_bind (wpAny_pure ?_)
          refine wpAny_pure ?_
          exact Tr37.drop (known := (c, none) :: known) hw e1 e3 (new none e.symm) (fun b o z => k3 b o (e6 b o z))
        · have e : an37 c = some c := if_neg hw
          refine wpAny_bind (wpAny_pure ?_)
          refine wpAny_pure ?_
          exact Tr37.keep (known := (c, some c) :: known) hw e1 e3 (new (some c) e.symm) (fun b o z => k3 b o (e6 b o z))
    case fin =>
      obtain ⟨past, pieces, known, h', k, e1, e2, e3, e4, e5, e6⟩ := hI
      subst e2
      subst e5
      have ex : x = past := by rw [e1, List.append_nil]
      have hl : (out37 past).length ≤ 16000000 := by
        rw [← ex]
        exact Nat.le_trans (List.length_filter_le _ _) hz
      show wpAny _ _ (if tooLong (out37 past).length = true then _ else retStr { cps := List.foldl (fun acc (p : Str) => acc ++ p.cps) #[] pieces.reverse }) _ _ _
      rw [show tooLong (out37 past).length = false from PyProof.Rows.short24 (by omega), if_neg Bool.false_ne_true, e3, pieces37, ← ex]
      have ev : (⟨#[] ++ (out37 x).toArray⟩ : Str) = SX.S (out37 x) := by
        rw [Array.empty_append] <;> rfl
      rw [ev]
      exact wpAny_bind (wpAny_mkStr (wpAny_pure ⟨_, rfl, h _ h' _ e6 ⟨_, rfl⟩⟩) (by rw [SX.S_len, sizeLine_eq, ex]; omega))
def rTr37 : V → List V → Hp → VK → Prop := fun x xs H Q => ∃ (t : Str) (d : Addr), x = .str t ∧ xs = [.ref d] ∧ H d = some (.dK [(Sum.inl 37, .non)]) ∧ (∀ c ∈ t.cps.toList, c < 128) ∧ t.length ≤ 16000000 ∧ Q (.str (SX.S (out37 t.cps.toList))) H
theorem mt_tr37 {X : Cx} (hc : X.calm = true) : MtR X "str.translate" rTr37 := by
  intro pins s σ H x xs v us Q I rx rs h
  obtain ⟨a, d, rfl, rfl, hd, ha, h3, h⟩ := h
  obtain ⟨t, rfl⟩ := rx
  obtain ⟨_, low, vs, kv, dd⟩ := dk_of I.hok hd
  cases rs with
  | cons r1 rs =>
    cases rs
    cases r1
    have ea : SX.S a.cps.toList = a := SX.S_tl a
    have hm := dd.mapOf
    have tl : Tl37 (prog := X.prog) (w := X.w) (valueAt vs) := by
      cases kv with
      | cons p r =>
        cases r
        rename_i b
        obtain ⟨k1, v1⟩ := b
        obtain ⟨e1, e2⟩ := p
        have e1 : Sum.inl 37 = k1 := e1
        have e2 : v1 = Value.none := e2
        subst e1 e2
        intro c
        unfold valueAt
        by_cases hc : c = 37
        · subst hc
          rfl
        · rw [if_neg hc]
          have hne : ¬ ((Sum.inl 37 : Key) = Sum.inl (c : Int)) := fun z => hc (by have := Sum.inl.inj z; omega)
          simp [List.find?, hne]
    rw [← ea]
    refine call_meetsIn F.slot_str_translate (typeIs_str _ _ _) F.entry_str_translate (F.args_str_translate_2 _ _) (meets_tr37 a.cps.toList t d low (by rw [Array.length_toList]; exact h3) ha) ⟨I.ok.hd hc, ⟨_, hm, tl⟩, ?_⟩
    intro v h' k hk ⟨t', e⟩
    subst e
    exact ⟨.str _, H, I.kept (t' := k) hk, ⟨t', rfl⟩, h⟩
end

/-! ### a text times an int -/
theorem op_mul_str {X : Cx} : OpR X (binaryOp .Mult) (fun x y H Q => ∃ a i, x = .str a ∧ y = .int i ∧ PySem.MulOk a i ∧ Q (.str (PySem.Txt.mul a i)) H) := fun pins s σ H x y v u Q I rx ry ⟨a, i, ex, ey, ok, q⟩ => by
  subst ex; subst ey
  obtain ⟨t, rfl⟩ := rx
  obtain ⟨t2, rfl⟩ := ry
  exact PySem.SB.mul ok (fun t' k => ⟨.str (PySem.Txt.mul a i), H, I.turnedL (ch := []) (fun _ _ _ e => e) (fun _ m => nomatch m), ⟨t', rfl⟩, q⟩)
theorem mulOk_a {n : Nat} (h : n ≤ 1000000) : PySem.MulOk (Str.ofString "a") (n : Int) := by
  refine ⟨?_, fun _ _ => ?_, fun _ _ => ?_⟩
  · rw [decide_eq_false (by omega), decide_eq_false (by omega)]; rfl
  · have e : (Str.ofString "a").length = 1 := by decide
    rw [e]
    intro z
    have : (1 : Int) ≤ (2 ^ 63 - 1) / (n : Int) := Int.le_ediv_of_mul_le (by omega) (by omega)
    omega
  · have e : (Str.ofString "a").length = 1 := by decide
    rw [e, Nat.one_mul, Int.toNat_natCast]
    unfold PySem.Builtin.Str.tooLong
    have : n ≤ sizeLine := Nat.le_trans h (by decide)
    exact decide_eq_false (by omega)
theorem mul_a {n : Nat} : (PySem.Txt.mul (Str.ofString "a") (n : Int)).cps = (List.replicate n (97 : Nat)).toArray := by
  unfold PySem.Txt.mul
  split
  · rw [show n = 0 by omega]; rfl
  · split
    · rename_i h
      have : n = 1 := by
        have e : ((Str.ofString "a").length == 0) = false := by decide
        rw [e, Bool.or_false] at h
        have := eq_of_beq h
        omega
      subst this
      decide
    · show List.foldl (fun x1 x2 => x1 ++ x2) #[] (List.replicate (n : Int).toNat (Str.ofString "a").cps) = _
      rw [Int.toNat_natCast, show (Str.ofString "a").cps = #[97] by decide]
      have : ∀ (n : Nat) (acc : Array Nat), List.foldl (fun (x1 x2 : Array Nat) => x1 ++ x2) acc (List.replicate n #[97]) = acc ++ (List.replicate n (97 : Nat)).toArray := by
        intro n
        induction n with
        | zero => intro acc; simp
        | succ n ih =>
          intro acc
          rw [List.replicate_succ, List.foldl_cons, ih, List.replicate_succ]
          apply Array.toList_inj.mp
          simp
      rw [this]
      simp

def keysIn (ks : List Str) (es : List DictEntry) : Bool := es.all fun e => match e.key with | .str z _ => ks.contains z | _ => false
theorem nsIn_none {K : PySem.W.Frag} {C : Addr} {c : Value} {od : Option Addr} {es : Array DictEntry} {n : Nat} {sl : Array (Option Value)} (h : K.lookup C = some ⟨c, od, .dict es n, sl⟩) {ks : List Str} (hk : keysIn ks es.toList = true) {z : Str} (hz : ks.contains z = false) : PySem.W.nsIn K C z = some none := by
  unfold PySem.W.nsIn
  rw [h]
  have k := List.all_eq_true.mp hk
  have f : es.toList.find? (fun x => x.key.isStr z) = none := by
    refine List.find?_eq_none.mpr fun e m hs => ?_
    have := k e m
    cases e with
    | mk hh key val =>
      cases key <;> simp [PySem.Value.isStr] at hs this
      rename_i y t
      subst hs
      rw [List.contains_iff_mem.mpr this] at hz
      cases hz
  have r : (es.toList.any fun x => x.refKey) = false := by
    refine List.any_eq_false.mpr fun e m => ?_
    have := k e m
    cases e with
    | mk hh key val =>
      cases key <;> simp [PySem.DictEntry.refKey] at this ⊢
  simp only [f, r]
  rfl

def topS (i : Nat) : Stmt := PySem.Challenge.pw_oathledger_k43_parse_command.main.body.getD i (.Pass ⟨0, 0, 0, 0⟩)
abbrev s_BadCommand____init__ : Stmt := inClass (topS 2) 0
theorem sc_BadCommand____init__ : FnScope ["self", "reason", "statement"] ["self", "reason", "statement"] (defScope s_BadCommand____init__) := ⟨rfl, rfl, rfl, by decide +kernel, rfl, by decide +kernel, by decide +kernel⟩
abbrev s_is_printable : Stmt := topS 5
theorem sc_is_printable : FnScope ["value"] ["value"] (defScope s_is_printable) := ⟨rfl, rfl, rfl, by decide +kernel, rfl, by decide +kernel, by decide +kernel⟩
abbrev s_is_short : Stmt := topS 6
theorem sc_is_short : FnScope ["value", "most"] ["value", "most"] (defScope s_is_short) := ⟨rfl, rfl, rfl, by decide +kernel, rfl, by decide +kernel, by decide +kernel⟩
abbrev s_is_decimal : Stmt := topS 7
theorem sc_is_decimal : FnScope ["word"] ["word"] (defScope s_is_decimal) := ⟨rfl, rfl, rfl, by decide +kernel, rfl, by decide +kernel, by decide +kernel⟩
abbrev s_parts_of : Stmt := topS 15
theorem sc_parts_of : FnScope ["text"] ["text"] (defScope s_parts_of) := ⟨rfl, rfl, rfl, by decide +kernel, rfl, by decide +kernel, by decide +kernel⟩
abbrev s_words_of : Stmt := topS 16
theorem sc_words_of : FnScope ["part", "index", "words"] ["part", "index"] (defScope s_words_of) := ⟨rfl, rfl, rfl, by decide +kernel, rfl, by decide +kernel, by decide +kernel⟩
abbrev s_is_name : Stmt := topS 17
theorem sc_is_name : FnScope ["word"] ["word"] (defScope s_is_name) := ⟨rfl, rfl, rfl, by decide +kernel, rfl, by decide +kernel, by decide +kernel⟩
abbrev s_is_key : Stmt := topS 18
theorem sc_is_key : FnScope ["word"] ["word"] (defScope s_is_key) := ⟨rfl, rfl, rfl, by decide +kernel, rfl, by decide +kernel, by decide +kernel⟩
abbrev s_is_value : Stmt := topS 19
theorem sc_is_value : FnScope ["word"] ["word"] (defScope s_is_value) := ⟨rfl, rfl, rfl, by decide +kernel, rfl, by decide +kernel, by decide +kernel⟩
abbrev s_is_amount : Stmt := topS 20
theorem sc_is_amount : FnScope ["word"] ["word"] (defScope s_is_amount) := ⟨rfl, rfl, rfl, by decide +kernel, rfl, by decide +kernel, by decide +kernel⟩
abbrev s_consists_of : Stmt := topS 21
theorem sc_consists_of : FnScope ["word", "characters", "most", "character"] ["word", "characters", "most"] (defScope s_consists_of) := ⟨rfl, rfl, rfl, by decide +kernel, rfl, by decide +kernel, by decide +kernel⟩
abbrev s_parse_command : Stmt := topS 24
theorem sc_parse_command : FnScope ["text", "index", "part"] ["text"] (defScope s_parse_command) := ⟨rfl, rfl, rfl, by decide +kernel, rfl, by decide +kernel, by decide +kernel⟩
abbrev s_parse_statement : Stmt := topS 25
theorem sc_parse_statement : FnScope ["part", "index", "words", "kinds", "arguments", "kind", "word"] ["part", "index"] (defScope s_parse_statement) := ⟨rfl, rfl, rfl, by decide +kernel, rfl, by decide +kernel, by decide +kernel⟩
abbrev s_parse_argument : Stmt := topS 26
theorem sc_parse_argument : FnScope ["kind", "word", "index"] ["kind", "word", "index"] (defScope s_parse_argument) := ⟨rfl, rfl, rfl, by decide +kernel, rfl, by decide +kernel, by decide +kernel⟩
abbrev s_is_of_kind : Stmt := topS 27
theorem sc_is_of_kind : FnScope ["kind", "word"] ["kind", "word"] (defScope s_is_of_kind) := ⟨rfl, rfl, rfl, by decide +kernel, rfl, by decide +kernel, by decide +kernel⟩
abbrev s__law_cell : Stmt := topS 29
theorem sc__law_cell : FnScope ["script", "k"] ["script", "k"] (defScope s__law_cell) := ⟨rfl, rfl, rfl, by decide +kernel, rfl, by decide +kernel, by decide +kernel⟩
abbrev s__law_word : Stmt := topS 30
theorem sc__law_word : FnScope ["size", "chars", "seed", "step", "word", "rest", "k"] ["size", "chars", "seed", "step"] (defScope s__law_word) := ⟨rfl, rfl, rfl, by decide +kernel, rfl, by decide +kernel, by decide +kernel⟩
abbrev s__law_all_in : Stmt := topS 32
theorem sc__law_all_in : FnScope ["word", "chars", "char"] ["word", "chars"] (defScope s__law_all_in) := ⟨rfl, rfl, rfl, by decide +kernel, rfl, by decide +kernel, by decide +kernel⟩
abbrev s__law_name : Stmt := topS 33
theorem sc__law_name : FnScope ["cell", "size"] ["cell"] (defScope s__law_name) := ⟨rfl, rfl, rfl, by decide +kernel, rfl, by decide +kernel, by decide +kernel⟩
abbrev s__law_key : Stmt := topS 34
theorem sc__law_key : FnScope ["cell", "size"] ["cell"] (defScope s__law_key) := ⟨rfl, rfl, rfl, by decide +kernel, rfl, by decide +kernel, by decide +kernel⟩
abbrev s__law_value : Stmt := topS 35
theorem sc__law_value : FnScope ["cell", "size", "chars"] ["cell"] (defScope s__law_value) := ⟨rfl, rfl, rfl, by decide +kernel, rfl, by decide +kernel, by decide +kernel⟩
abbrev s__law_amount : Stmt := topS 36
theorem sc__law_amount : FnScope ["cell"] ["cell"] (defScope s__law_amount) := ⟨rfl, rfl, rfl, by decide +kernel, rfl, by decide +kernel, by decide +kernel⟩
abbrev s__law_forms : Stmt := topS 37
theorem sc__law_forms : FnScope ["forms"] [] (defScope s__law_forms) := ⟨rfl, rfl, rfl, by decide +kernel, rfl, by decide +kernel, by decide +kernel⟩
abbrev s__law_statement : Stmt := topS 38
theorem sc__law_statement : FnScope ["verb_cell", "first", "second", "verb", "kinds", "parts", "cells", "k"] ["verb_cell", "first", "second"] (defScope s__law_statement) := ⟨rfl, rfl, rfl, by decide +kernel, rfl, by decide +kernel, by decide +kernel⟩
abbrev s__law_odd : Stmt := topS 39
theorem sc__law_odd : FnScope ["cell", "words"] ["cell"] (defScope s__law_odd) := ⟨rfl, rfl, rfl, by decide +kernel, rfl, by decide +kernel, by decide +kernel⟩
abbrev s__law_spoilt : Stmt := topS 40
theorem sc__law_spoilt : FnScope ["words", "cell", "choice", "at"] ["words", "cell"] (defScope s__law_spoilt) := ⟨rfl, rfl, rfl, by decide +kernel, rfl, by decide +kernel, by decide +kernel⟩
abbrev s__law_built : Stmt := topS 41
theorem sc__law_built : FnScope ["script", "rows", "k", "at", "statement", "part", "words"] ["script"] (defScope s__law_built) := ⟨rfl, rfl, rfl, by decide +kernel, rfl, by decide +kernel, by decide +kernel⟩
abbrev s__law_argument : Stmt := topS 42
theorem sc__law_argument : FnScope ["kind", "word", "letters"] ["kind", "word"] (defScope s__law_argument) := ⟨rfl, rfl, rfl, by decide +kernel, rfl, by decide +kernel, by decide +kernel⟩
abbrev s__law_one : Stmt := topS 43
theorem sc__law_one : FnScope ["part", "words", "verb", "kinds", "parts", "k", "reason"] ["part"] (defScope s__law_one) := ⟨rfl, rfl, rfl, by decide +kernel, rfl, by decide +kernel, by decide +kernel⟩
abbrev s__law_due : Stmt := topS 44
theorem sc__law_due : FnScope ["text", "parsed", "part", "one"] ["text"] (defScope s__law_due) := ⟨rfl, rfl, rfl, by decide +kernel, rfl, by decide +kernel, by decide +kernel⟩
abbrev s_law : Stmt := topS 45
theorem sc_law : FnScope ["script", "text", "due", "actual", "told", "e", "k", "part"] ["script"] (defScope s_law) := ⟨rfl, rfl, rfl, by decide +kernel, rfl, by decide +kernel, by decide +kernel⟩
structure Txt (K : PySem.W.Frag) (mg : Str → Option Value) (w : World) (C_BadCommand : Addr) (C_VERBS : Addr) : Prop where
  d_is_printable : DefOk K mg "is_printable" s_is_printable ["value"]
  d_is_short : DefOk K mg "is_short" s_is_short ["value", "most"]
  d_is_decimal : DefOk K mg "is_decimal" s_is_decimal ["word"]
  d_parts_of : DefOk K mg "parts_of" s_parts_of ["text"]
  d_words_of : DefOk K mg "words_of" s_words_of ["part", "index"]
  d_is_name : DefOk K mg "is_name" s_is_name ["word"]
  d_is_key : DefOk K mg "is_key" s_is_key ["word"]
  d_is_value : DefOk K mg "is_value" s_is_value ["word"]
  d_is_amount : DefOk K mg "is_amount" s_is_amount ["word"]
  d_consists_of : DefOk K mg "consists_of" s_consists_of ["word", "characters", "most"]
  d_parse_command : DefOk K mg "parse_command" s_parse_command ["text"]
  d_parse_statement : DefOk K mg "parse_statement" s_parse_statement ["part", "index"]
  d_parse_argument : DefOk K mg "parse_argument" s_parse_argument ["kind", "word", "index"]
  d_is_of_kind : DefOk K mg "is_of_kind" s_is_of_kind ["kind", "word"]
  d__law_cell : DefOk K mg "_law_cell" s__law_cell ["script", "k"]
  d__law_word : DefOk K mg "_law_word" s__law_word ["size", "chars", "seed", "step"]
  d__law_all_in : DefOk K mg "_law_all_in" s__law_all_in ["word", "chars"]
  d__law_name : DefOk K mg "_law_name" s__law_name ["cell"]
  d__law_key : DefOk K mg "_law_key" s__law_key ["cell"]
  d__law_value : DefOk K mg "_law_value" s__law_value ["cell"]
  d__law_amount : DefOk K mg "_law_amount" s__law_amount ["cell"]
  d__law_forms : DefOk K mg "_law_forms" s__law_forms []
  d__law_statement : DefOk K mg "_law_statement" s__law_statement ["verb_cell", "first", "second"]
  d__law_odd : DefOk K mg "_law_odd" s__law_odd ["cell"]
  d__law_spoilt : DefOk K mg "_law_spoilt" s__law_spoilt ["words", "cell"]
  d__law_built : DefOk K mg "_law_built" s__law_built ["script"]
  d__law_argument : DefOk K mg "_law_argument" s__law_argument ["kind", "word"]
  d__law_one : DefOk K mg "_law_one" s__law_one ["part"]
  d__law_due : DefOk K mg "_law_due" s__law_due ["text"]
  d_law : DefOk K mg "law" s_law ["script"]
  x_BadCommand : ExI K mg "BadCommand" C_BadCommand
  xn_BadCommand_reason : PySem.W.findIn K (.ref C_BadCommand) "reason" = some none
  xn_BadCommand_statement : PySem.W.findIn K (.ref C_BadCommand) "statement" = some none
  ei_BadCommand : ExInit K C_BadCommand "BadCommand.__init__" s_BadCommand____init__ ["self", "reason", "statement"]
  g_VERBS : mg "VERBS" = some (.ref C_VERBS)
  kd_VERBS : ∃ es n, KDict K w C_VERBS es n
  ki_VERBS_0 : ∃ a, KDct K w C_VERBS "open" (.ref a) ∧ KTup K a [.str "name"]
  ki_VERBS_1 : ∃ a, KDct K w C_VERBS "close" (.ref a) ∧ KTup K a [.str "name"]
  ki_VERBS_2 : ∃ a, KDct K w C_VERBS "issue" (.ref a) ∧ KTup K a [.str "name", .str "amount"]
  ki_VERBS_3 : ∃ a, KDct K w C_VERBS "burn" (.ref a) ∧ KTup K a [.str "name", .str "amount"]
  ki_VERBS_4 : ∃ a, KDct K w C_VERBS "pay" (.ref a) ∧ KTup K a [.str "name", .str "name", .str "amount"]
  ki_VERBS_5 : ∃ a, KDct K w C_VERBS "balance" (.ref a) ∧ KTup K a [.str "name"]
  ki_VERBS_6 : ∃ a, KDct K w C_VERBS "atleast" (.ref a) ∧ KTup K a [.str "name", .str "amount"]
  ki_VERBS_7 : ∃ a, KDct K w C_VERBS "hold" (.ref a) ∧ KTup K a [.str "name", .str "name", .str "amount", .str "key"]
  ki_VERBS_8 : ∃ a, KDct K w C_VERBS "settle" (.ref a) ∧ KTup K a [.str "key"]
  ki_VERBS_9 : ∃ a, KDct K w C_VERBS "release" (.ref a) ∧ KTup K a [.str "key"]
  ki_VERBS_10 : ∃ a, KDct K w C_VERBS "put" (.ref a) ∧ KTup K a [.str "key", .str "value"]
  ki_VERBS_11 : ∃ a, KDct K w C_VERBS "get" (.ref a) ∧ KTup K a [.str "key"]
  ki_VERBS_12 : ∃ a, KDct K w C_VERBS "drop" (.ref a) ∧ KTup K a [.str "key"]
  ki_VERBS_13 : ∃ a, KDct K w C_VERBS "swap" (.ref a) ∧ KTup K a [.str "key", .str "value", .str "value"]
  ki_VERBS_14 : ∃ a, KDct K w C_VERBS "same" (.ref a) ∧ KTup K a [.str "key", .str "value"]
  ki_VERBS_15 : ∃ a, KDct K w C_VERBS "keys" (.ref a) ∧ KTup K a [.str "key"]
  kn_VERBS : ∀ z : Str, (["open", "close", "issue", "burn", "pay", "balance", "atleast", "hold", "settle", "release", "put", "get", "drop", "swap", "same", "keys"] : List Str).contains z = false → PySem.W.nsIn K C_VERBS z = some none
  u_BadCommand_BadCommand : PySem.W.subIn K (.ref C_BadCommand) (.ref C_BadCommand) = some true
  c_KEY_CHARACTERS : ∃ u, mg "KEY_CHARACTERS" = some u ∧ RelV (.str "abcdefghijklmnopqrstuvwxyz.0123456789") u
  c_LETTERS : ∃ u, mg "LETTERS" = some u ∧ RelV (.str "abcdefghijklmnopqrstuvwxyz") u
  c_MOST_AMOUNT : ∃ u, mg "MOST_AMOUNT" = some u ∧ RelV (.int 12) u
  c_MOST_KEY : ∃ u, mg "MOST_KEY" = some u ∧ RelV (.int 20) u
  c_MOST_NAME : ∃ u, mg "MOST_NAME" = some u ∧ RelV (.int 12) u
  c_MOST_TEXT : ∃ u, mg "MOST_TEXT" = some u ∧ RelV (.int 240) u
  c_MOST_VALUE : ∃ u, mg "MOST_VALUE" = some u ∧ RelV (.int 40) u
  z_all : mg "all" = none
  z_bool : mg "bool" = none
  z_enumerate : mg "enumerate" = none
  z_int : mg "int" = none
  z_isinstance : mg "isinstance" = none
  z_len : mg "len" = none
  z_list : mg "list" = none
  z_range : mg "range" = none
  z_str : mg "str" = none
  z_tuple : mg "tuple" = none
  z_zip : mg "zip" = none
set_option pp.maxSteps 150
/-! ### the draws of a script -/
def Dr (H : Hp) (D A : Addr) : Prop := D ≠ A ∧ ∃ (ds : List Int) (n : Nat), H D = some (.lst (ds.map V.int)) ∧ H A = some (.lst [.int n]) ∧ (∀ d ∈ ds, 0 ≤ d ∧ d < 1000) ∧ ds.length ≤ 2520
/-- all that was tracked but A is as it was -/
def Mod (A : Addr) (H H' : Hp) : Prop := ∀ b o, b ≠ A → H b = some o → H' b = some o
theorem Mod.refl {A : Addr} {H : Hp} : Mod A H H := fun _ _ _ h => h
theorem Mod.trans {A : Addr} {H H1 H2 : Hp} (a : Mod A H H1) (b : Mod A H1 H2) : Mod A H H2 := fun c o n h => b c o n (a c o n h)
theorem Same.mod {A : Addr} {H H' : Hp} (s : Same H H') : Mod A H H' := fun b o _ h => s b o h
theorem Mod.new {A p : Addr} {o : HO} {H H' : Hp} (s : Mod A H H') (h : H' p = none) : Mod A H (upd H' p o) := fun b u n e => by
  rw [upd_ne (ne_of_none (s b u n e) h)]
  exact s b u n e
theorem Dr.new {D A p : Addr} {o : HO} {H : Hp} (d : Dr H D A) (h : H p = none) : Dr (upd H p o) D A := by
  obtain ⟨ne, ds, n, h1, h2, h3⟩ := d
  exact ⟨ne, ds, n, by rw [upd_ne (ne_of_none h1 h)]; exact h1, by rw [upd_ne (ne_of_none h2 h)]; exact h2, h3⟩
theorem Dr.same {D A : Addr} {H H' : Hp} (d : Dr H D A) (s : Same H H') : Dr H' D A := by
  obtain ⟨ne, ds, n, h1, h2, h3⟩ := d
  exact ⟨ne, ds, n, s _ _ h1, s _ _ h2, h3⟩
/-- an object that is neither D nor A is changed -/
theorem Dr.put {D A p : Addr} {o : HO} {H : Hp} (d : Dr H D A) (h1 : p ≠ D) (h2 : p ≠ A) : Dr (upd H p o) D A := by
  obtain ⟨ne, ds, n, e1, e2, h3⟩ := d
  exact ⟨ne, ds, n, by rw [upd_ne h1.symm]; exact e1, by rw [upd_ne h2.symm]; exact e2, h3⟩
theorem Dr.freshA {D A p : Addr} {H : Hp} (d : Dr H D A) (h : H p = none) : p ≠ A := by
  obtain ⟨_, _, _, _, e, _⟩ := d
  exact (ne_of_none e h).symm
theorem Dr.freshD {D A p : Addr} {H : Hp} (d : Dr H D A) (h : H p = none) : p ≠ D := by
  obtain ⟨_, _, _, e, _⟩ := d
  exact (ne_of_none e h).symm
theorem Mod.free {A p : Addr} {H H' : Hp} (s : Mod A H H') (d : ∃ o, H' A = some o) (h : H' p = none) : H p = none := by
  cases e : H p with
  | none => rfl
  | some o =>
    by_cases hp : p = A
    · subst hp
      obtain ⟨o', e'⟩ := d
      rw [e'] at h; cases h
    · rw [s p o hp e] at h; cases h
theorem Dr.A_in {D A : Addr} {H : Hp} (d : Dr H D A) : ∃ o, H A = some o := by
  obtain ⟨_, _, _, _, e, _⟩ := d
  exact ⟨_, e⟩
theorem rng_app {ds : List Int} {x : Int} (h : ∀ d ∈ ds, 0 ≤ d ∧ d < 1000) (h0 : 0 ≤ x) (h1 : x < 1000) : ∀ d ∈ ds ++ [x], 0 ≤ d ∧ d < 1000 := fun d hd => by
  rcases List.mem_append.mp hd with hd | hd
  · exact h d hd
  · rw [List.mem_singleton.mp hd]; exact ⟨h0, h1⟩

/-! ### drawn numbers and strings -/
def prC (c : Nat) : Bool := decide (32 ≤ c) && decide (c ≤ 126) && decide (c ≠ 37)
def isPr (z : Str) : Bool := z.cps.toList.all prC
theorem app_tl (a b : Str) : (a ++ b).cps.toList = a.cps.toList ++ b.cps.toList := by
  show (a.cps ++ b.cps).toList = _
  rw [Array.toList_append]
theorem len_tl (z : Str) : z.cps.toList.length = z.length := Array.length_toList
theorem isPr_app (a b : Str) : isPr (a ++ b) = (isPr a && isPr b) := by
  unfold isPr
  rw [app_tl, List.all_append]

/-! ### values as data: what stands at them does not change -/
def TupAt (K : PySem.W.Frag) (H : Hp) (a : Addr) (xs : List V) : Prop := H a = some (.tup xs) ∨ KTup K a xs
section
variable {K : PySem.W.Frag}
theorem TupAt.sq {H : Hp} {a : Addr} {xs : List V} (h : TupAt K H a xs) : SqT K H a xs := h.elim SqT.of .inr
theorem TupAt.ty {H : Hp} {a : Addr} {xs : List V} (h : TupAt K H a xs) : TyX K H (.ref a) (.type "tuple") := h.elim (fun h => .base (.tup h)) (fun ⟨_, _, _, h1, h2, _⟩ => .kTuple h1 h2)
theorem TupAt.same {H H' : Hp} {a : Addr} {xs : List V} (h : TupAt K H a xs) (s : Same H H') : TupAt K H' a xs := h.imp (s _ _) id
/-- none of those at A (none: no matter) -/
def NeA (A : Option Addr) (a : Addr) : Prop := match A with | some b => a ≠ b | none => True
mutual
/-- v is the data d; the lists in it are none of those at A -/
inductive Dt (K : PySem.W.Frag) (H : Hp) (A : Option Addr) : V → PyData → Prop
  | non : Dt K H A .non .none
  | bl (b : Bool) : Dt K H A (.bl b) (.bool b)
  | int (i : Int) : Dt K H A (.int i) (.int i)
  | str (z : Str) (h : z.length ≤ 1000000) : Dt K H A (.str z) (.str z)
  | lst {a : Addr} {xs : List V} {ds : List PyData} : NeA A a → H a = some (.lst xs) → DtAll K H A xs ds → Dt K H A (.ref a) (.list ds)
  | tup {a : Addr} {xs : List V} {ds : List PyData} : TupAt K H a xs → DtAll K H A xs ds → Dt K H A (.ref a) (.tuple ds)
inductive DtAll (K : PySem.W.Frag) (H : Hp) (A : Option Addr) : List V → List PyData → Prop
  | nil : DtAll K H A [] []
  | cons {v : V} {vs : List V} {d : PyData} {ds : List PyData} : Dt K H A v d → DtAll K H A vs ds → DtAll K H A (v :: vs) (d :: ds)
end
theorem DtAll.length {H : Hp} {A : Option Addr} : ∀ {xs : List V} {ds : List PyData}, DtAll K H A xs ds → xs.length = ds.length
  | _, _, .nil => rfl
  | _, _, .cons _ r => by rw [List.length_cons, List.length_cons, r.length]
theorem DtAll.get {H : Hp} {A : Option Addr} : ∀ {xs : List V} {ds : List PyData} {i : Nat} {x : V}, DtAll K H A xs ds → xs[i]? = some x → ∃ d, ds[i]? = some d ∧ Dt K H A x d
  | _, _, _, _, .nil, e => by simp at e
  | _, _, 0, x, .cons h _, e => by simp at e; subst e; exact ⟨_, rfl, h⟩
  | _, _, i + 1, x, .cons _ r, e => by
    obtain ⟨d, h1, h2⟩ := r.get (i := i) (x := x) (by simpa using e)
    exact ⟨d, by simpa using h1, h2⟩
theorem DtAll.getD {H : Hp} {A : Option Addr} {xs : List V} {ds : List PyData} {i : Nat} {d : PyData} (h : DtAll K H A xs ds) (e : ds[i]? = some d) : ∃ x, xs[i]? = some x ∧ Dt K H A x d := by
  have hi : i < ds.length := (List.getElem?_eq_some_iff.mp e).1
  have hi' : i < xs.length := by rw [h.length]; exact hi
  obtain ⟨d', h1, h2⟩ := h.get (List.getElem?_eq_getElem hi')
  rw [e] at h1
  cases h1
  exact ⟨_, List.getElem?_eq_getElem hi', h2⟩
mutual
theorem Dt.mod {H H' : Hp} {A D : Addr} (s : Mod A H H') (dr : Dr H D A) : ∀ (d : PyData) (v : V), Dt K H (some A) v d → Dt K H' (some A) v d
  | .none, _, h => by cases h; exact .non
  | .bool b, _, h => by cases h; exact .bl b
  | .int i, _, h => by cases h; exact .int i
  | .str z, _, h => by cases h with | str _ hz => exact .str z hz
  | .list ds, _, h => by cases h with | lst hn ha hd => exact .lst hn (s _ _ hn ha) (DtAll.mod s dr ds _ hd)
  | .tuple ds, _, h => by
    cases h with
    | tup ha hd =>
      obtain ⟨_, _, _, _, e, _⟩ := id dr
      exact .tup (ha.imp (fun ha => s _ _ (ne_of ha e (by intro z; cases z)) ha) id) (DtAll.mod s dr ds _ hd)
  | .dict _, _, h => by cases h
theorem DtAll.mod {H H' : Hp} {A D : Addr} (s : Mod A H H') (dr : Dr H D A) : ∀ (ds : List PyData) (xs : List V), DtAll K H (some A) xs ds → DtAll K H' (some A) xs ds
  | [], _, h => by cases h; exact .nil
  | d :: ds, _, h => by cases h with | cons h1 h2 => exact .cons (Dt.mod s dr d _ h1) (DtAll.mod s dr ds _ h2)
end
mutual
theorem Dt.same {H H' : Hp} {A : Option Addr} (s : Same H H') : ∀ (d : PyData) (v : V), Dt K H A v d → Dt K H' A v d
  | .none, _, h => by cases h; exact .non
  | .bool b, _, h => by cases h; exact .bl b
  | .int i, _, h => by cases h; exact .int i
  | .str z, _, h => by cases h with | str _ hz => exact .str z hz
  | .list ds, _, h => by cases h with | lst hn ha hd => exact .lst hn (s _ _ ha) (DtAll.same s ds _ hd)
  | .tuple ds, _, h => by cases h with | tup ha hd => exact .tup (ha.same s) (DtAll.same s ds _ hd)
  | .dict _, _, h => by cases h
theorem DtAll.same {H H' : Hp} {A : Option Addr} (s : Same H H') : ∀ (ds : List PyData) (xs : List V), DtAll K H A xs ds → DtAll K H' A xs ds
  | [], _, h => by cases h; exact .nil
  | d :: ds, _, h => by cases h with | cons h1 h2 => exact .cons (Dt.same s d _ h1) (DtAll.same s ds _ h2)
end
mutual
/-- data for a comparison -/
theorem Dt.dp {H : Hp} {A : Option Addr} : ∀ (d : PyData) (v : V), Dt K H A v d → Dp K H v d
  | .none, _, h => by cases h; exact .non
  | .bool b, _, h => by cases h; exact .bl b
  | .int i, _, h => by cases h; exact .int i
  | .str z, _, h => by cases h; exact .str z
  | .list ds, _, h => by cases h with | lst hn ha hd => exact .lst (SqL.of ha) (DtAll.dp ds _ hd)
  | .tuple ds, _, h => by cases h with | tup ha hd => exact .tup ha.sq (DtAll.dp ds _ hd)
  | .dict _, _, h => by cases h
theorem DtAll.dp {H : Hp} {A : Option Addr} : ∀ (ds : List PyData) (xs : List V), DtAll K H A xs ds → DpAll K H xs ds
  | [], _, h => by cases h; exact .nil
  | d :: ds, _, h => by cases h with | cons h1 h2 => exact .cons (Dt.dp d _ h1) (DtAll.dp ds _ h2)
end
theorem Dt.on {H H' : Hp} {A : Option Addr} {v : V} {d : PyData} (h : Dt K H A v d) (s : Same H H') : Dt K H' A v d := Dt.same s d v h
theorem DtAll.on {H H' : Hp} {A : Option Addr} {xs : List V} {ds : List PyData} (h : DtAll K H A xs ds) (s : Same H H') : DtAll K H' A xs ds := DtAll.same s ds xs h
theorem Dt.by {H H' : Hp} {A D : Addr} {v : V} {d : PyData} (h : Dt K H (some A) v d) (s : Mod A H H') (dr : Dr H D A) : Dt K H' (some A) v d := Dt.mod s dr d v h
theorem DtAll.by {H H' : Hp} {A D : Addr} {xs : List V} {ds : List PyData} (h : DtAll K H (some A) xs ds) (s : Mod A H H') (dr : Dr H D A) : DtAll K H' (some A) xs ds := DtAll.mod s dr ds xs h
theorem Dt.two {H : Hp} {A : Option Addr} {v : V} {d : PyData} (h : Dt K H A v d) : (∃ a xs ds, v = .ref a ∧ d = .tuple ds ∧ TupAt K H a xs ∧ DtAll K H A xs ds) ∨ (∃ T, TyX K H v (.type T) ∧ kitB T "tuple" = some false ∧ ∀ ds, d ≠ .tuple ds) := by
  cases h with
  | tup ha hx => exact .inl ⟨_, _, _, rfl, rfl, ha, hx⟩
  | str z hz => exact .inr ⟨_, .base (.str z), by decide +kernel, fun _ z => nomatch z⟩
  | int i => exact .inr ⟨_, .base (.int i), by decide +kernel, fun _ z => nomatch z⟩
  | non => exact .inr ⟨_, .base .non, by decide +kernel, fun _ z => nomatch z⟩
  | bl b => exact .inr ⟨_, .base (.bl b), by decide +kernel, fun _ z => nomatch z⟩
  | lst _ ha _ => exact .inr ⟨_, .base (.lst ha), by decide +kernel, fun _ z => nomatch z⟩
/-- the kind of a value -/
def dTy : PyData → String
  | .none => "NoneType" | .bool _ => "bool" | .int _ => "int" | .str _ => "str" | .list _ => "list" | .tuple _ => "tuple" | .dict _ => "dict"
theorem Dt.ty {H : Hp} {A : Option Addr} {v : V} {d : PyData} (h : Dt K H A v d) : TyX K H v (.type (dTy d)) := by
  cases h with
  | non => exact .base .non
  | bl b => exact .base (.bl b)
  | int i => exact .base (.int i)
  | str z _ => exact .base (.str z)
  | lst _ ha _ => exact .base (.lst ha)
  | tup ha _ => exact ha.ty
/-! the predicates of the program, upon data -/
def dInt (lo hi : Int) : PyData → Bool
  | .int i => decide (lo ≤ i ∧ i ≤ hi)
  | _ => false
def dShort (m : Int) : PyData → Bool
  | .str z => isPr z && decide ((z.length : Int) ≤ m)
  | _ => false
def dCmd : PyData → Bool
  | .tuple [c, n, t] => dInt (-100) (-1) c && dInt 1 1000000000000 n && dShort 240 t
  | _ => false
def dClient : PyData → Int
  | .tuple (.int c :: _) => c
  | _ => 0
def dAfter : Option Int → PyData → Bool
  | some k, d => decide (k < dClient d)
  | none, _ => true
def befV : Option Int → V
  | some k => .int k
  | none => .non
def dCmdsFrom : Option Int → List PyData → Bool
  | _, [] => true
  | b, d :: r => dCmd d && dAfter b d && dCmdsFrom (some (dClient d)) r
theorem dCmdsFrom_cons (b : Option Int) (d : PyData) (r : List PyData) : dCmdsFrom b (d :: r) = (dCmd d && dAfter b d && dCmdsFrom (some (dClient d)) r) := by cases b <;> rfl
theorem dCmdsFrom_nil (b : Option Int) : dCmdsFrom b [] = true := by cases b <;> rfl
def dCmds : PyData → Bool
  | .tuple ds => dCmdsFrom none ds
  | _ => false
def dHeight (parent : Int) (h : PyData) : Bool := if parent = 0 then dInt 1 1 h else dInt 2 (parent + 1) h
def dBlock4 (e p h cs : PyData) : Bool := match e, p with
  | .int e, .int p => dInt 1 1000000000000 (.int e) && dInt 0 (e - 1) (.int p) && dHeight p h && dCmds cs
  | _, _ => false
def dBlock : PyData → Bool
  | .tuple [e, p, h, cs] => dBlock4 e p h cs
  | _ => false
def dEmpty : PyData → Bool
  | .tuple [] => true
  | _ => false
def dGen : PyData → Bool
  | .tuple [e, p, h, cs] => dInt 0 0 e && dInt 0 0 p && dInt 0 0 h && dEmpty cs
  | _ => false
theorem DtAll.four {H : Hp} {A : Option Addr} {xs : List V} {ds : List PyData} (h : DtAll K H A xs ds) (hl : xs.length = 4) :
    ∃ x1 x2 x3 x4 d1 d2 d3 d4, xs = [x1, x2, x3, x4] ∧ ds = [d1, d2, d3, d4] ∧ Dt K H A x1 d1 ∧ Dt K H A x2 d2 ∧ Dt K H A x3 d3 ∧ Dt K H A x4 d4 := by
  match xs, ds, h with
  | [_, _, _, _], _, .cons h1 (.cons h2 (.cons h3 (.cons h4 .nil))) => exact ⟨_, _, _, _, _, _, _, _, rfl, rfl, h1, h2, h3, h4⟩
theorem dBlock4_e1 {e p h cs : PyData} (z : dInt 1 1000000000000 e = false) : dBlock4 e p h cs = false := by
  unfold dBlock4
  split
  · rw [z]; rfl
  · rfl
theorem dBlock4_e2 {e : Int} {p h cs : PyData} (z : dInt 0 (e - 1) p = false) : dBlock4 (.int e) p h cs = false := by
  unfold dBlock4
  split
  · rename_i h1
    cases h1
    rw [z, Bool.and_false]; rfl
  · rfl
/-- a predicate of one value, kept by growing heaps -/
def spPred (K : PySem.W.Frag) (A : Option Addr) (f : PyData → Bool) : Sp := fun vs H Q _ => ∃ (v : V) (d : PyData), vs = [v] ∧ Dt K H A v d ∧ ∀ H', Same H H' → Q (.bl (f d)) H'
def spIntD (K : PySem.W.Frag) (A : Option Addr) : Sp := fun vs H Q _ => ∃ (v : V) (d : PyData) (lo hi : Int), vs = [v, .int lo, .int hi] ∧ Dt K H A v d ∧ Q (.bl (dInt lo hi d)) H
def spShortD (K : PySem.W.Frag) (A : Option Addr) : Sp := fun vs H Q _ => ∃ (v : V) (d : PyData) (m : Int), vs = [v, .int m] ∧ Dt K H A v d ∧ ∀ H', Same H H' → Q (.bl (dShort m d)) H'
theorem dInt_inv {lo hi : Int} {d : PyData} (h : dInt lo hi d = true) : ∃ i, d = .int i ∧ lo ≤ i ∧ i ≤ hi := by
  cases d with
  | int i =>
    have h : decide (lo ≤ i ∧ i ≤ hi) = true := h
    exact ⟨i, rfl, (of_decide_eq_true h).1, (of_decide_eq_true h).2⟩
  | none => cases h
  | bool b => cases h
  | str z => cases h
  | list ds => cases h
  | tuple ds => cases h
  | dict k => cases h
theorem dShort_inv {m : Int} {d : PyData} (h : dShort m d = true) : ∃ z : Str, d = .str z ∧ isPr z = true ∧ (z.length : Int) ≤ m := by
  cases d with
  | str z =>
    have h : (isPr z && decide ((z.length : Int) ≤ m)) = true := h
    obtain ⟨h1, h2⟩ := Bool.and_eq_true_iff.mp h
    exact ⟨z, rfl, h1, of_decide_eq_true h2⟩
  | none => cases h
  | bool b => cases h
  | int i => cases h
  | list ds => cases h
  | tuple ds => cases h
  | dict k => cases h
theorem dCmd_inv {d : PyData} (h : dCmd d = true) : ∃ (c n : Int) (t : Str), d = .tuple [.int c, .int n, .str t] ∧ -100 ≤ c ∧ c ≤ -1 ∧ 1 ≤ n ∧ n ≤ 1000000000000 ∧ isPr t = true ∧ (t.length : Int) ≤ 240 := by
  unfold dCmd at h
  split at h
  · rename_i c n t
    rw [Bool.and_eq_true, Bool.and_eq_true] at h
    obtain ⟨⟨h1, h2⟩, h3⟩ := h
    obtain ⟨c, rfl, c0, c1⟩ := dInt_inv h1
    obtain ⟨n, rfl, n0, n1⟩ := dInt_inv h2
    obtain ⟨t, rfl, t0, t1⟩ := dShort_inv h3
    exact ⟨c, n, t, rfl, c0, c1, n0, n1, t0, t1⟩
  · cases h
/-- what a tuple of three ints, ints, texts stands for -/
theorem Dt.three {H : Hp} {A : Option Addr} {v : V} {d1 d2 d3 : PyData} (h : Dt K H A v (.tuple [d1, d2, d3])) : ∃ a x1 x2 x3, v = .ref a ∧ TupAt K H a [x1, x2, x3] ∧ Dt K H A x1 d1 ∧ Dt K H A x2 d2 ∧ Dt K H A x3 d3 := by
  cases h with
  | tup ha hd =>
    cases hd with
    | cons h1 hd =>
      cases hd with
      | cons h2 hd =>
        cases hd with
        | cons h3 hd =>
          cases hd
          exact ⟨_, _, _, _, rfl, ha, h1, h2, h3⟩
mutual
theorem Dt.any {H : Hp} {A : Option Addr} : ∀ (d : PyData) (v : V), Dt K H A v d → Dt K H none v d
  | .none, _, h => by cases h; exact .non
  | .bool b, _, h => by cases h; exact .bl b
  | .int i, _, h => by cases h; exact .int i
  | .str z, _, h => by cases h with | str _ hz => exact .str z hz
  | .list ds, _, h => by cases h with | lst hn ha hd => exact .lst trivial ha (DtAll.any ds _ hd)
  | .tuple ds, _, h => by cases h with | tup ha hd => exact .tup ha (DtAll.any ds _ hd)
  | .dict _, _, h => by cases h
theorem DtAll.any {H : Hp} {A : Option Addr} : ∀ (ds : List PyData) (xs : List V), DtAll K H A xs ds → DtAll K H none xs ds
  | [], _, h => by cases h; exact .nil
  | d :: ds, _, h => by cases h with | cons h1 h2 => exact .cons (Dt.any d _ h1) (DtAll.any ds _ h2)
end
theorem Dt.an {H : Hp} {A : Option Addr} {v : V} {d : PyData} (h : Dt K H A v d) : Dt K H none v d := Dt.any d v h
/-! data without lists -/
mutual
def noL : PyData → Bool
  | .list _ => false
  | .tuple ds => noLs ds
  | _ => true
def noLs : List PyData → Bool
  | [] => true
  | d :: r => noL d && noLs r
end
/-- tracked tuples stay -/
def Tp (H H' : Hp) : Prop := ∀ a xs, H a = some (.tup xs) → H' a = some (.tup xs)
mutual
theorem Dt.keep {H H' : Hp} {A B : Option Addr} (t : Tp H H') : ∀ (d : PyData) (v : V), noL d = true → Dt K H A v d → Dt K H' B v d
  | .none, _, _, h => by cases h; exact .non
  | .bool b, _, _, h => by cases h; exact .bl b
  | .int i, _, _, h => by cases h; exact .int i
  | .str z, _, _, h => by cases h with | str _ hz => exact .str z hz
  | .list ds, _, n, _ => by cases n
  | .tuple ds, _, n, h => by cases h with | tup ha hd => exact .tup (ha.imp (t _ _) id) (DtAll.keep t ds _ n hd)
  | .dict _, _, _, h => by cases h
theorem DtAll.keep {H H' : Hp} {A B : Option Addr} (t : Tp H H') : ∀ (ds : List PyData) (xs : List V), noLs ds = true → DtAll K H A xs ds → DtAll K H' B xs ds
  | [], _, _, h => by cases h; exact .nil
  | d :: ds, _, n, h => by
    have n : (noL d && noLs ds) = true := n
    rw [Bool.and_eq_true] at n
    cases h with | cons h1 h2 => exact .cons (Dt.keep t d _ n.1 h1) (DtAll.keep t ds _ n.2 h2)
end
theorem DtAll.snoc {H : Hp} {A : Option Addr} : ∀ {xs : List V} {ds : List PyData} {x : V} {d : PyData}, DtAll K H A xs ds → Dt K H A x d → DtAll K H A (xs ++ [x]) (ds ++ [d])
  | _, _, _, _, .nil, h => .cons h .nil
  | _, _, _, _, .cons h r, h2 => .cons h (r.snoc h2)
theorem TupAt.tp {H H' : Hp} {a : Addr} {xs : List V} (h : TupAt K H a xs) (t : Tp H H') : TupAt K H' a xs := h.imp (t _ _) id
theorem Same.tp {H H' : Hp} (s : Same H H') : Tp H H' := fun _ _ h => s _ _ h
theorem Mod.tp {H H' : Hp} {A D : Addr} (s : Mod A H H') (dr : Dr H D A) : Tp H H' := fun a xs h => by
  obtain ⟨_, _, _, _, e, _⟩ := id dr
  exact s _ _ (ne_of h e (by intro z; cases z)) h
theorem tp_put {H : Hp} {l : Addr} {xs ys : List V} (h : H l = some (.lst xs)) : Tp H (upd H l (.lst ys)) := fun a zs e => by
  rw [upd_ne (ne_of e h (by intro z; cases z))]; exact e
theorem dCmd_noL {d : PyData} (h : dCmd d = true) : noL d = true := by
  obtain ⟨c, n, t, rfl, _⟩ := dCmd_inv h
  rfl
theorem dCmdsFrom_noL : ∀ {ds : List PyData} {b : Option Int}, dCmdsFrom b ds = true → noLs ds = true
  | [], _, _ => rfl
  | d :: r, b, h => by
    rw [dCmdsFrom_cons, Bool.and_eq_true, Bool.and_eq_true] at h
    show (noL d && noLs r) = true
    rw [dCmd_noL h.1.1, dCmdsFrom_noL h.2]; rfl
theorem dCmdsFrom_all : ∀ {ds : List PyData} {b : Option Int}, dCmdsFrom b ds = true → ∀ d ∈ ds, dCmd d = true
  | [], _, _, _, m => nomatch m
  | d :: r, b, h, e, m => by
    rw [dCmdsFrom_cons, Bool.and_eq_true, Bool.and_eq_true] at h
    rcases List.mem_cons.mp m with rfl | m
    · exact h.1.1
    · exact dCmdsFrom_all h.2 e m
def lastC : Option Int → List PyData → Option Int
  | b, [] => b
  | _, d :: r => lastC (some (dClient d)) r
theorem lastC_snoc : ∀ (ds : List PyData) (b : Option Int) (d : PyData), lastC b (ds ++ [d]) = some (dClient d)
  | [], _, _ => rfl
  | _ :: r, _, d => lastC_snoc r _ d
theorem dCmdsFrom_snoc : ∀ (ds : List PyData) (b : Option Int) (d : PyData), dCmdsFrom b (ds ++ [d]) = (dCmdsFrom b ds && (dCmd d && dAfter (lastC b ds) d))
  | [], b, d => by
    show dCmdsFrom b [d] = _
    rw [dCmdsFrom_cons, dCmdsFrom_nil, dCmdsFrom_nil, Bool.and_true, Bool.true_and]; rfl
  | e :: r, b, d => by
    show dCmdsFrom b (e :: (r ++ [d])) = _
    rw [dCmdsFrom_cons, dCmdsFrom_snoc r, dCmdsFrom_cons, Bool.and_assoc, Bool.and_assoc, Bool.and_assoc]; rfl
end
theorem noLs_all : ∀ {ds : List PyData}, (∀ d ∈ ds, noL d = true) → noLs ds = true
  | [], _ => rfl
  | d :: r, h => by
    show (noL d && noLs r) = true
    rw [h d List.mem_cons_self, noLs_all (fun e he => h e (List.mem_cons_of_mem _ he))]; rfl

def NoStr (K : PySem.W.Frag) (H : Hp) (v : V) : Prop := ∃ T, TyX K H v (.type T) ∧ kitB T "str" = some false
def spPrint (K : PySem.W.Frag) : Sp := fun vs H Q _ => ∃ (v : V), vs = [v] ∧ ((∃ z : Str, v = .str z ∧ z.length ≤ 16000000 ∧ ∀ H', Same H H' → Q (.bl (isPr z)) H') ∨ (NoStr K H v ∧ Q (.bl false) H))
theorem print128 : ∀ c : Nat, c < 128 → (Unicode.isPrintable c = true ↔ (32 ≤ c ∧ c ≤ 126)) := by
  intro c hc
  have h : ∀ c : Fin 128, (Unicode.isPrintable c.val = true ↔ (32 ≤ c.val ∧ c.val ≤ 126)) := by decide +kernel
  exact h ⟨c, hc⟩
theorem asc_list {z : Str} : Txt.isascii z = true ↔ ∀ c ∈ z.cps.toList, c < 128 := by
  unfold Txt.isascii
  rw [← Array.all_toList, List.all_eq_true]
  simp
theorem pri_list {z : Str} : Txt.isprintable z = true ↔ ∀ c ∈ z.cps.toList, Unicode.isPrintable c = true := by
  unfold Txt.isprintable
  rw [← Array.all_toList, List.all_eq_true]
theorem isPr_iff {z : Str} : isPr z = true ↔ ∀ c ∈ z.cps.toList, 32 ≤ c ∧ c ≤ 126 ∧ c ≠ 37 := by
  unfold isPr
  rw [List.all_eq_true]
  simp [prC, and_assoc]
theorem out37_len {l : List Nat} : (out37 l).length = l.length ↔ ∀ c ∈ l, c ≠ 37 := by
  unfold out37
  rw [List.length_filter_eq_length_iff]
  simp
section
variable {P : Program} {w : World} {K : PySem.W.Frag} {mg : Str → Option Value} {base : Heap}
theorem c_is_printable {C_BadCommand : Addr} {C_VERBS : Addr} (T : Txt K mg w C_BadCommand C_VERBS) : Cal P w K mg base 1 "is_printable" (spPrint K) [] := by
  refine cal T.d_is_printable sc_is_printable (fun vs H Q E h => ?_) (fun f cdv A outer s H vs Q E hr h => ?_)
  · obtain ⟨v, rfl, _⟩ := h; rfl
  obtain ⟨v, rfl, h⟩ := h
  refine ⟨_, (pss_cons (ps_if (PW.pt (pw_or (pt_not (pt_val (pe_callB (kisi (K := K)) (by rfl) T.z_isinstance (by decide +kernel) (pa_cons (pv 0) (pa_cons (pe_bltn (v := .ty "str") (by rfl) T.z_str (by decide +kernel) rfl) pa_nil))))) (pw_or (pt_not (pt_val (pe_bm0 PySem.F.plainAttrs_str PySem.F.slot_str_isascii PySem.F.type_str_isascii mt_isascii (pv 0)))) (pw_or1 (pt_not (pt_val (pe_bm0 PySem.F.plainAttrs_str PySem.F.slot_str_isprintable PySem.F.type_str_isprintable mt_isprintable (pv 0)))))))) (pss_one (ps_ret pe_bl)) pss_nil)
      (pss_one (ps_ret (pe_cmpR op_eq (pe_callB call_len_str (by rfl) T.z_len (by decide +kernel) (pa_cons (pe_bm PySem.F.plainAttrs_str PySem.F.slot_str_translate PySem.F.type_str_translate (mt_tr37 rfl) (pv 0) (pa_cons (pe_disp (pps_cons pe_int pe_non pps_nil) rfl rfl (by intro z; cases z) (by decide)) pa_nil)) pa_nil)) (pe_callB call_len_str (by rfl) T.z_len (by decide +kernel) (pa_cons (pv 0) pa_nil)) (nomark _))))), ?_⟩
  rcases h with ⟨z, rfl, hz, q⟩ | ⟨⟨T, ty, hk⟩, q⟩
  · walk_at "rds"
    walk_at "isi"
    walk_at "rds"
    refine ⟨rfl, _, rfl, rfl, trivial, ?_⟩
    walk_at "rds"
    cases ha : Txt.isascii z with
    | false =>
      have e : isPr z = false := by
        cases e : isPr z with
        | false => rfl
        | true =>
          have := asc_list.mpr (fun c hc => by have := isPr_iff.mp e c hc; omega)
          rw [ha] at this; cases this
      rw [e] at q
      walk_at "rds"
      exact q H (Same.refl H)
    | true =>
      have ha := asc_list.mp ha
      walk_at "rds"
      refine ⟨rfl, _, rfl, rfl, trivial, ?_⟩
      walk_at "rds"
      cases hp : Txt.isprintable z with
      | false =>
        have e : isPr z = false := by
          cases e : isPr z with
          | false => rfl
          | true =>
            have := pri_list.mpr (fun c hc => by have := isPr_iff.mp e c hc; exact (print128 c (by omega)).mpr ⟨by omega, by omega⟩)
            rw [hp] at this; cases this
        rw [e] at q
        walk_at "rds"
        exact q H (Same.refl H)
      | true =>
        have hp := pri_list.mp hp
        walk_at "rds"
        refine ⟨rfl, fun p np => ?_⟩
        refine ⟨upd_same, [(Sum.inl 37, .non)], rfl, by decide, ?_⟩
        refine ⟨z, p, rfl, rfl, upd_same, ha, hz, ?_⟩
        have l37 : (SX.S (out37 z.cps.toList)).length ≤ 16000000 := by
          rw [SX.S_len]
          exact Nat.le_trans (List.length_filter_le _ _) (by rw [len_tl]; exact hz)
        walk_at "rds"
        have e : decide (V.int ((SX.S (out37 z.cps.toList)).length : Int) = V.int (z.length : Int)) = isPr z := by
          rw [SX.S_len]
          have hl := @out37_len z.cps.toList
          rw [len_tl] at hl
          cases e : isPr z with
          | true =>
            refine decide_eq_true ?_
            rw [hl.mpr (fun c hc => (isPr_iff.mp e c hc).2.2)]
          | false =>
            refine decide_eq_false fun z' => ?_
            have h1 := hl.mp (Int.ofNat.inj (V.int.inj z'))
            have : isPr z = true := isPr_iff.mpr (fun c hc => ⟨((print128 c (ha c hc)).mp (hp c hc)).1, ((print128 c (ha c hc)).mp (hp c hc)).2, h1 c hc⟩)
            rw [e] at this; cases this
        rw [← e] at q
        exact q _ (same_mut (same_upd np) np)
  · walk_at "rds"
    refine ⟨_, .ty _, _, _, false, rfl, .ty _, ty, kit_ty hk, ?_⟩
    walk_at "rds"
    exact q
end

/-! ### words: is_decimal, is_name, is_key, is_value, is_amount -/
def dg (c : Nat) : Bool := decide (48 ≤ c) && decide (c ≤ 57)
/-- a number in decimal digits, by its codes -/
def dcL (l : List Nat) : Bool := !l.isEmpty && l.all dg && (l == [48] || l.head? != some 48)
def inL (l ch : List Nat) : Bool := l.all fun c => decide (c ∈ ch)
theorem digit128 : ∀ c : Nat, c < 128 → Unicode.isDigit c = dg c := by
  intro c hc
  have h : ∀ c : Fin 128, Unicode.isDigit c.val = dg c.val := by decide +kernel
  exact h ⟨c, hc⟩
theorem dg_lt {c : Nat} (h : dg c = true) : 48 ≤ c ∧ c ≤ 57 := by
  unfold dg at h
  rw [Bool.and_eq_true] at h
  exact ⟨of_decide_eq_true h.1, of_decide_eq_true h.2⟩
theorem all_digits {z : Str} (ha : Txt.isascii z = true) : Txt.isdigit z = (!z.cps.toList.isEmpty && z.cps.toList.all dg) := by
  unfold Txt.isdigit
  have h := asc_list.mp ha
  rw [← Array.all_toList]
  have e1 : decide (z.length > 0) = !z.cps.toList.isEmpty := by
    rw [← len_tl]
    cases z.cps.toList <;> simp
  rw [e1]
  congr 1
  revert h
  generalize z.cps.toList = l
  intro h
  induction l with
  | nil => rfl
  | cons c r ih =>
    rw [List.all_cons, List.all_cons, digit128 c (h c List.mem_cons_self), ih (fun d hd => h d (List.mem_cons_of_mem _ hd))]
theorem dcL_asc {z : Str} (h : Txt.isascii z = false) : dcL z.cps.toList = false := by
  cases e : dcL z.cps.toList with
  | false => rfl
  | true =>
    unfold dcL at e
    rw [Bool.and_eq_true, Bool.and_eq_true] at e
    have := asc_list.mpr (fun c hc => by have := dg_lt (List.all_eq_true.mp e.1.2 c hc); omega)
    rw [h] at this; cases this
theorem str_eq_l {a b : Str} : a = b ↔ a.cps.toList = b.cps.toList := by
  constructor
  · rintro rfl; rfl
  · intro h
    cases a; cases b
    simp only [Str.mk.injEq]
    exact Array.toList_inj.mp h
def spStrB (K : PySem.W.Frag) (f : List Nat → Bool) : Sp := fun vs H Q _ => ∃ (z : Str), vs = [.str z] ∧ z.length ≤ 10000 ∧ ∀ H', Same H H' → Q (.bl (f z.cps.toList)) H'
section
variable {P : Program} {w : World} {K : PySem.W.Frag} {mg : Str → Option Value} {base : Heap}
theorem c_is_decimal {C_BadCommand : Addr} {C_VERBS : Addr} (T : Txt K mg w C_BadCommand C_VERBS) : Cal P w K mg base 1 "is_decimal" (spStrB K dcL) [] := by
  refine cal T.d_is_decimal sc_is_decimal (fun vs H Q E h => ?_) (fun f cdv A' outer s H vs Q E hr h => ?_)
  · obtain ⟨z, rfl, _⟩ := h; rfl
  obtain ⟨z, rfl, hz, q⟩ := h
  refine ⟨_, (pss_one (ps_ret (pe_and (pe_bm0 PySem.F.plainAttrs_str PySem.F.slot_str_isascii PySem.F.type_str_isascii mt_isascii (pv 0)) (pe_and (pe_bm0 PySem.F.plainAttrs_str PySem.F.slot_str_isdigit PySem.F.type_str_isdigit mt_isdigit (pv 0)) (pe_one (pe_or (pe_cmpR op_eq (pv 0) pe_str (nomark _)) (pe_one (pe_cmpR op_ne (pe_ix ix_str (pv 0) pe_int (fun _ _ => rfl)) pe_str (nomark _))))))))), ?_⟩
  have q := q H (Same.refl H)
  walk_at "rds"
  refine ⟨rfl, _, rfl, rfl, trivial, ?_⟩
  walk_at "rds"
  cases ha : Txt.isascii z with
  | false =>
    rw [dcL_asc ha] at q
    refine ifF rfl ?_
    exact q
  | true =>
    refine ifT rfl ?_
    walk_at "rds"
    refine ⟨rfl, _, rfl, rfl, trivial, ?_⟩
    walk_at "rds"
    rw [all_digits ha]
    cases hd : (!z.cps.toList.isEmpty && z.cps.toList.all dg) with
    | false =>
      have e : dcL z.cps.toList = false := by unfold dcL; rw [hd]; rfl
      rw [e] at q
      refine ifF rfl ?_
      exact q
    | true =>
      have e : dcL z.cps.toList = (z.cps.toList == [48] || z.cps.toList.head? != some 48) := by unfold dcL; rw [hd]; rfl
      rw [e] at q
      refine ifT rfl ?_
      walk_at "rds"
      have l0 : (Str.ofString "0").cps.toList = [48] := by decide
      refine ite2 (fun e0 => ?_) (fun e0 => ?_)
      · have e0 : z = Str.ofString "0" := V.str.inj (of_decide_eq_true e0)
        rw [e0, l0] at q
        exact q
      · have e0 : ¬ z = Str.ofString "0" := fun h => e0 (decide_eq_true (by rw [h]))
        have e1 : z.cps.toList ≠ [48] := fun h => e0 (str_eq_l.mpr (h.trans l0.symm))
        obtain ⟨c, r, hl⟩ : ∃ c r, z.cps.toList = c :: r := by
          cases hl : z.cps.toList with
          | nil => rw [hl] at hd; simp at hd
          | cons c r => exact ⟨c, r, rfl⟩
        have h0 : atI z.cps.toList 0 = some c := atI_nat (j := 0) (by rw [hl]; rfl)
        walk_at "rds"
        refine ⟨z, _, c, rfl, rfl, sz1000 (by omega), h0, ?_⟩
        walk_at "rds"
        have e2 : (z.cps.toList == [48]) = false := by simpa using e1
        rw [e2, hl, Bool.false_or] at q
        have e3 : (!decide (V.str ⟨#[c]⟩ = V.str (Str.ofString "0"))) = ((c :: r).head? != some 48) := by
          by_cases h : c = 48
          · subst h; rfl
          · rw [decide_eq_false (fun z => h (by
              have := congrArg (fun v => match v with | V.str s => s.cps.toList | _ => []) z
              have : [c] = [48] := this
              simpa using this))]
            simp [h]
        rw [← e3] at q
        exact q
def spCons (K : PySem.W.Frag) : Sp := fun vs H Q _ => ∃ (z ch : Str) (m : Int), vs = [.str z, .str ch, .int m] ∧ z.length ≤ 10000 ∧ ∀ H', Same H H' → Q (.bl (decide (1 ≤ z.cps.toList.length) && decide ((z.cps.toList.length : Int) ≤ m) && inL z.cps.toList ch.cps.toList)) H'
theorem c_consists_of {C_BadCommand : Addr} {C_VERBS : Addr} (T : Txt K mg w C_BadCommand C_VERBS) : Cal P w K mg base 1 "consists_of" (spCons K) [] := by
  refine cal T.d_consists_of sc_consists_of (fun vs H Q E h => ?_) (fun f cdv A' outer s H vs Q E hr h => ?_)
  · obtain ⟨z, ch, m, rfl, _⟩ := h; rfl
  obtain ⟨z, ch, m, rfl, hz, q⟩ := h
  refine ⟨_, (pss_one (ps_ret (pe_and (pe_chain op_le op_le pe_int (pe_callB call_len_str (by rfl) T.z_len (by decide +kernel) (pa_cons (pv 0) pa_nil)) (pv 2)) (pe_one (pe_callB (cr_all rfl) (by rfl) T.z_all (by decide +kernel) (pa_cons (pe_lc (own := [("character", 3)]) (g := gName 3) (by rfl) sc_consists_of.nd (pi_str (pv 0)) (blkOk_by (own := [("character", 3)]) (N := ["word", "characters", "most", "character"]) (sc := defScope s_consists_of) (by decide +kernel)) (fun _ _ _ _ _ => pg_name (i := 3) sc_consists_of.nd rfl (Or.inl rfl)) (fun _ _ _ _ _ => pts_nil) (fun _ _ _ _ _ => (pe_cmpR op_inS (pv 3) (pv 1) (by rfl)))) pa_nil)))))), ?_⟩
  rw [len_tl] at q
  walk_at "rds"
  refine ite2 (fun e => ?_) (fun e => ?_)
  · have e : (1 : Int) ≤ (z.length : Int) := of_decide_eq_true e
    rw [decide_eq_true (show 1 ≤ z.length by omega), Bool.true_and] at q
    walk_at "rds"
    cases e2 : decide ((z.length : Int) ≤ m) with
    | false =>
      rw [e2] at q
      refine ifF rfl ?_
      exact q H (Same.refl H)
    | true =>
      rw [e2] at q
      refine ifT rfl ?_
      walk_at "rds"
      intro D hD
      refine lc_it walk_str (Pv := fun i H' => Same H H' ∧ H' D = some (.lst (((z.cps.toList.take i).map (fun c => decide (c ∈ ch.cps.toList))).map V.bl))) ⟨same_upd hD, upd_same⟩ (fun _ _ _ _ => trivial) (fun i x H6 H7 hi hp hy => ?_) (fun H6 hp => ?_)
      · obtain ⟨s6, hD6⟩ := hp
        obtain ⟨rfl, c, gc, rfl⟩ := hy
        have gc : z.cps.toList[i]? = some c := by rw [Array.getElem?_toList]; exact gc
        refine ⟨rfl, tyes ?_⟩
        walk_at "rds"
        refine ⟨_, hD6, by rw [List.length_map, List.length_map, List.length_take, len_tl]; exact sz1000' (by omega), same_mut s6 hD, ?_⟩
        rw [upd_same, List.take_add_one, gc, Option.toList_some, List.map_append, List.map_append]
        rfl
      · obtain ⟨s6, hD6⟩ := hp
        rw [List.take_of_length_le (by rw [Array.length_toList]; exact Nat.le_refl _)] at hD6
        walk_at "rds"
        refine ⟨D, _, rfl, sq hD6, ?_⟩
        have e3 : ((z.cps.toList.map (fun c => decide (c ∈ ch.cps.toList))).all id) = inL z.cps.toList ch.cps.toList := by
          unfold inL; rw [List.all_map]; rfl
        rw [e3]
        have q := q H6 s6
        rw [Bool.true_and] at q
        exact q
  · have e : ¬ (1 : Int) ≤ (z.length : Int) := fun h => e (decide_eq_true h)
    rw [decide_eq_false (show ¬ 1 ≤ z.length by omega)] at q
    refine ⟨false, rfl, ?_⟩
    exact q H (Same.refl H)
def lettersL : List Nat := (Str.ofString "abcdefghijklmnopqrstuvwxyz").cps.toList
def keysL : List Nat := (Str.ofString "abcdefghijklmnopqrstuvwxyz.0123456789").cps.toList
def nmL (l : List Nat) : Bool := decide (1 ≤ l.length) && decide ((l.length : Int) ≤ 12) && inL l lettersL
def kyL (l : List Nat) : Bool := decide (1 ≤ l.length) && decide ((l.length : Int) ≤ 20) && inL l keysL
def amL (l : List Nat) : Bool := decide ((l.length : Int) ≤ 12) && dcL l
def vlL (l : List Nat) : Bool := !l.isEmpty && !decide (32 ∈ l) && !decide (59 ∈ l) && (l.all prC && decide ((l.length : Int) ≤ 40))
theorem c_is_name {C_BadCommand : Addr} {C_VERBS : Addr} (T : Txt K mg w C_BadCommand C_VERBS) : Cal P w K mg base 2 "is_name" (spStrB K nmL) [] := by
  have c_consists_of := c_consists_of (P := P) (w := w) (base := base) T
  refine cal T.d_is_name sc_is_name (fun vs H Q E h => ?_) (fun f cdv A' outer s H vs Q E hr h => ?_)
  · obtain ⟨z, rfl, _⟩ := h; rfl
  obtain ⟨z, rfl, hz, q⟩ := h
  refine ⟨_, (pss_one (ps_ret (pe_c c_consists_of hr (by decide) (by rfl) (pa_cons (pv 0) (pa_cons (pe_gc (by rfl) T.c_LETTERS) (pa_cons (pe_gc (by rfl) T.c_MOST_NAME) pa_nil)))))), ?_⟩
  walk_at "rds"
  exact ⟨z, _, 12, rfl, hz, fun H' s => q H' s⟩
theorem c_is_key {C_BadCommand : Addr} {C_VERBS : Addr} (T : Txt K mg w C_BadCommand C_VERBS) : Cal P w K mg base 2 "is_key" (spStrB K kyL) [] := by
  have c_consists_of := c_consists_of (P := P) (w := w) (base := base) T
  refine cal T.d_is_key sc_is_key (fun vs H Q E h => ?_) (fun f cdv A' outer s H vs Q E hr h => ?_)
  · obtain ⟨z, rfl, _⟩ := h; rfl
  obtain ⟨z, rfl, hz, q⟩ := h
  refine ⟨_, (pss_one (ps_ret (pe_c c_consists_of hr (by decide) (by rfl) (pa_cons (pv 0) (pa_cons (pe_gc (by rfl) T.c_KEY_CHARACTERS) (pa_cons (pe_gc (by rfl) T.c_MOST_KEY) pa_nil)))))), ?_⟩
  walk_at "rds"
  exact ⟨z, _, 20, rfl, hz, fun H' s => q H' s⟩
theorem c_is_amount {C_BadCommand : Addr} {C_VERBS : Addr} (T : Txt K mg w C_BadCommand C_VERBS) : Cal P w K mg base 2 "is_amount" (spStrB K amL) [] := by
  have c_is_decimal := c_is_decimal (P := P) (w := w) (base := base) T
  refine cal T.d_is_amount sc_is_amount (fun vs H Q E h => ?_) (fun f cdv A' outer s H vs Q E hr h => ?_)
  · obtain ⟨z, rfl, _⟩ := h; rfl
  obtain ⟨z, rfl, hz, q⟩ := h
  refine ⟨_, (pss_one (ps_ret (pe_and (pe_cmpR op_le (pe_callB call_len_str (by rfl) T.z_len (by decide +kernel) (pa_cons (pv 0) pa_nil)) (pe_gc (by rfl) T.c_MOST_AMOUNT) (nomark _)) (pe_one (pe_c c_is_decimal hr (by decide) (by rfl) (pa_cons (pv 0) pa_nil)))))), ?_⟩
  unfold amL at q
  rw [len_tl] at q
  walk_at "rds"
  cases e : decide ((z.length : Int) ≤ 12) with
  | false =>
    rw [e] at q
    refine ifF rfl ?_
    exact q H (Same.refl H)
  | true =>
    rw [e] at q
    refine ifT rfl ?_
    walk_at "rds"
    exact ⟨hz, fun H' s => q H' s⟩
def spShortS (K : PySem.W.Frag) : Sp := fun vs H Q _ => ∃ (z : Str) (m : Int), vs = [.str z, .int m] ∧ z.length ≤ 10000 ∧ ∀ H', Same H H' → Q (.bl (isPr z && decide ((z.length : Int) ≤ m))) H'
theorem c_is_shortS {C_BadCommand : Addr} {C_VERBS : Addr} (T : Txt K mg w C_BadCommand C_VERBS) : Cal P w K mg base 2 "is_short" (spShortS K) [] := by
  have c_is_printable := c_is_printable (P := P) (w := w) (base := base) T
  refine cal T.d_is_short sc_is_short (fun vs H Q E h => ?_) (fun f cdv A' outer s H vs Q E hr h => ?_)
  · obtain ⟨z, m, rfl, _⟩ := h; rfl
  obtain ⟨z, m, rfl, hz, q⟩ := h
  refine ⟨_, (pss_one (ps_ret (pe_and (pe_c c_is_printable hr (by decide) (by rfl) (pa_cons (pv 0) pa_nil)) (pe_one (pe_cmpR op_le (pe_callB call_len_str (by rfl) T.z_len (by decide +kernel) (pa_cons (pv 0) pa_nil)) (pv 1) (nomark _)))))), ?_⟩
  refine ⟨_, rfl, .str z, rfl, .inl ⟨z, rfl, by omega, fun H' sm => ?_⟩⟩
  have q := q H' sm
  refine ⟨_, rfl, ?_⟩
  cases e : isPr z with
  | false =>
    rw [e] at q
    refine ifF rfl ?_
    exact q
  | true =>
    rw [e] at q
    refine ifT rfl ?_
    walk_at "rds"
    exact q
theorem c_is_value {C_BadCommand : Addr} {C_VERBS : Addr} (T : Txt K mg w C_BadCommand C_VERBS) : Cal P w K mg base 3 "is_value" (spStrB K vlL) [] := by
  have c_is_short := c_is_shortS (P := P) (w := w) (base := base) T
  refine cal T.d_is_value sc_is_value (fun vs H Q E h => ?_) (fun f cdv A' outer s H vs Q E hr h => ?_)
  · obtain ⟨z, rfl, _⟩ := h; rfl
  obtain ⟨z, rfl, hz, q⟩ := h
  refine ⟨_, (pss_one (ps_ret (pe_and (pe_cmpR op_ne (pv 0) pe_str (nomark _)) (pe_and (pe_cmpR op_notInS pe_str (pv 0) (by rfl)) (pe_and (pe_cmpR op_notInS pe_str (pv 0) (by rfl)) (pe_one (pe_c c_is_short hr (by decide) (by rfl) (pa_cons (pv 0) (pa_cons (pe_gc (by rfl) T.c_MOST_VALUE) pa_nil))))))))), ?_⟩
  have hlen := len_tl z
  have e1 : (!decide (V.str z = V.str (Str.ofString ""))) = !z.cps.toList.isEmpty := by
    by_cases h : z = Str.ofString ""
    · subst h; decide
    · rw [decide_eq_false (fun e => h (V.str.inj e))]
      cases e : z.cps.toList with
      | nil => exact absurd (str_eq_l.mpr (e.trans (by decide : [] = (Str.ofString "").cps.toList))) h
      | cons _ _ => rfl
  have s1 : (Str.ofString " ") = ⟨#[32]⟩ := by decide
  have s2 : (Str.ofString ";") = ⟨#[59]⟩ := by decide
  walk_at "rds"
  rw [e1]
  unfold vlL at q
  cases e1 : z.cps.toList.isEmpty with
  | true =>
    rw [e1] at q
    refine ifF rfl ?_
    exact q H (Same.refl H)
  | false =>
    rw [e1] at q
    refine ifT rfl ?_
    walk_at "rds"
    cases e2 : decide (32 ∈ z.cps.toList) with
    | true =>
      rw [e2] at q
      refine ifF (by show (!decide (32 ∈ z.cps.toList)) = false; rw [e2]; rfl) ?_
      exact q H (Same.refl H)
    | false =>
      rw [e2] at q
      refine ifT (by show (!decide (32 ∈ z.cps.toList)) = true; rw [e2]; rfl) ?_
      walk_at "rds"
      cases e3 : decide (59 ∈ z.cps.toList) with
      | true =>
        rw [e3] at q
        refine ifF (by show (!decide (59 ∈ z.cps.toList)) = false; rw [e3]; rfl) ?_
        exact q H (Same.refl H)
      | false =>
        rw [e3, hlen] at q
        refine ifT (by show (!decide (59 ∈ z.cps.toList)) = true; rw [e3]; rfl) ?_
        walk_at "rds"
        exact ⟨z, 40, rfl, hz, fun H' s => q H' s⟩
end

/-! ### numbers have one form -/
def prL (l : List Nat) : Bool := l.all prC
theorem dg_all {l : List Nat} (h : l.all dg = true) : PySem.NumText.AllDigits l := fun c hc => dg_lt (List.all_eq_true.mp h c hc)
theorem digitsVal_snoc (l : List Nat) (c : Nat) : PySem.NumText.digitsVal (l ++ [c]) = PySem.NumText.digitsVal l * 10 + (c - 48) := by
  unfold PySem.NumText.digitsVal
  rw [List.foldl_append]; rfl
theorem numL_back : ∀ (n : Nat) (l : List Nat), l.length = n → l ≠ [] → PySem.NumText.AllDigits l → (l = [48] ∨ l.head? ≠ some 48) → TL.numL (PySem.NumText.digitsVal l) = l := by
  intro n
  induction n with
  | zero => intro l h1 h2; exact absurd (List.length_eq_zero_iff.mp h1) h2
  | succ n ih =>
    intro l h1 h2 h3 h4
    obtain ⟨q, c, rfl⟩ : ∃ q c, l = q ++ [c] := ⟨_, _, (List.dropLast_concat_getLast h2).symm⟩
    have hc := h3 c (by simp)
    rw [digitsVal_snoc]
    cases q with
    | nil =>
      show TL.numL (0 * 10 + (c - 48)) = [c]
      rw [TL.numL_lt (by omega)]
      exact congrArg (· :: []) (by omega)
    | cons a r =>
      have ha := h3 a (by simp)
      have hd : a ≠ 48 := by
        rintro rfl
        rcases h4 with h4 | h4
        · simp at h4
        · exact h4 rfl
      have ih := ih (a :: r) (by simpa using h1) (by simp) (fun d m => h3 d (by simp only [List.mem_append]; exact .inl m)) (.inr (by simpa using hd))
      have hp : 1 ≤ PySem.NumText.digitsVal (a :: r) := by
        cases e : PySem.NumText.digitsVal (a :: r) with
        | zero =>
          rw [e, TL.numL_lt (by omega)] at ih
          injection ih with e1 _
          omega
        | succ k => omega
      rw [TL.numL_step (by omega)]
      rw [show (PySem.NumText.digitsVal (a :: r) * 10 + (c - 48)) / 10 = PySem.NumText.digitsVal (a :: r) by omega, ih,
        show 48 + (PySem.NumText.digitsVal (a :: r) * 10 + (c - 48)) % 10 = c by omega]
theorem dcL_iff {l : List Nat} : dcL l = true ↔ l ≠ [] ∧ PySem.NumText.AllDigits l ∧ (l = [48] ∨ l.head? ≠ some 48) := by
  unfold dcL
  rw [Bool.and_eq_true, Bool.and_eq_true, Bool.or_eq_true]
  constructor
  · rintro ⟨⟨a, b⟩, c⟩
    refine ⟨fun z => (by rw [z] at a; cases a), dg_all b, c.imp (fun z => eq_of_beq z) (fun z y => by rw [y] at z; simp at z)⟩
  · rintro ⟨a, b, c⟩
    refine ⟨⟨by cases l; exact absurd rfl a; rfl, List.all_eq_true.mpr fun x hx => by have := b x hx; unfold dg; rw [decide_eq_true this.1, decide_eq_true this.2]; rfl⟩, ?_⟩
    rcases c with c | c
    · exact .inl (by rw [c]; rfl)
    · exact .inr (by simpa using c)
theorem dcL_num {l : List Nat} (h : dcL l = true) : TL.numL (PySem.NumText.digitsVal l) = l := by
  obtain ⟨a, b, c⟩ := dcL_iff.mp h
  exact numL_back _ l rfl a b c
theorem numL_head {n : Nat} (h : 10 ≤ n) : ∃ a r, TL.numL n = a :: r ∧ a ≠ 48 := by
  induction n using Nat.strongRecOn with
  | _ n ih =>
    rw [TL.numL_step h]
    by_cases g : n / 10 < 10
    · rw [TL.numL_lt g]
      exact ⟨_, _, rfl, by omega⟩
    · obtain ⟨a, r, e, ha⟩ := ih (n / 10) (by omega) (by omega)
      rw [e]
      exact ⟨a, _, rfl, ha⟩
theorem num_dcL (n : Nat) : dcL (TL.numL n) = true := by
  refine dcL_iff.mpr ⟨TL.numL_ne n, TL.numL_digits n, ?_⟩
  by_cases h : n < 10
  · rw [TL.numL_lt h]
    by_cases z : n = 0
    · subst z; exact .inl rfl
    · exact .inr (by simpa using z)
  · obtain ⟨a, r, e, ha⟩ := numL_head (n := n) (by omega)
    rw [e]
    exact .inr (by simpa using ha)

/-! ### BadCommand(reason, statement) -/
section
variable {P : Program} {w : World} {K : PySem.W.Frag} {mg : Str → Option Value} {base : Heap}
theorem i_BadCommand {C_BadCommand : Addr} {C_VERBS : Addr} (T : Txt K mg w C_BadCommand C_VERBS) : ExMk P w K mg base 1 "BadCommand" C_BadCommand (spInit2 C_BadCommand "reason" "statement") := by
  refine exmk T.x_BadCommand T.ei_BadCommand sc_BadCommand____init__ (fun vs H Q E h => ?_) (fun f cdv A' outer s H vs Q E hr h => ?_)
  · obtain ⟨a, r, t, rfl, _⟩ := h; rfl
  obtain ⟨a, r, t, rfl, ha, q⟩ := h
  refine ⟨_, (pss_cons (ps_ost (pv 0) (pv 1))
      (pss_one (ps_ost (pv 0) (pv 2)))), ?_⟩
  walk_at "rds"
  refine ⟨a, C_BadCommand, rfl, T.x_BadCommand.ox, T.xn_BadCommand_reason, .inl ⟨ha, fun d hd hne => ?_⟩⟩
  walk_at "rds"
  refine ⟨a, C_BadCommand, rfl, T.x_BadCommand.ox, T.xn_BadCommand_statement, .inr ⟨d, _, upd_same, by rw [upd_ne hne]; exact upd_same, (by show 1 ≤ 900; decide), ?_⟩⟩
  exact q d hd hne
end

/-! ### split by one sign, by codes -/
def cutsN (c : Nat) : Nat → Nat → List Nat → List Nat
  | 0, _, _ => []
  | _ + 1, _, [] => []
  | n + 1, p, a :: r => if a = c then p :: cutsN c n (p + 1) r else cutsN c (n + 1) (p + 1) r
theorem cutsN_zero (c p : Nat) (l : List Nat) : cutsN c 0 p l = [] := by simp [cutsN]
theorem cutsN_nil (c n p : Nat) : cutsN c n p [] = [] := by cases n <;> simp [cutsN]
open PySem.StrLaws in
theorem occ_run (x : Str) (c lim : Nat) : ∀ (n a free : Nat) (arr : Array Nat), free ≤ a → a + n = x.length + 1 →
    (forIn (List.range' a n) (arr, free) (occBody x ⟨#[c]⟩ x.length lim)).run.fst.toList = arr.toList ++ cutsN c (lim - arr.size) a (x.cps.toList.drop a)
  | 0, a, free, arr, _, h => by
    rw [List.drop_eq_nil_of_le (by rw [len_tl]; omega), cutsN_nil, List.append_nil]; rfl
  | n + 1, a, free, arr, hf, h => by
    rw [List.range'_succ, List.forIn_cons]
    have one := subAt_one x c a
    have l1 : (⟨#[c]⟩ : Str).length = 1 := rfl
    by_cases e : a = x.length
    · have c2 : ¬ ((((arr, free).fst.size < lim ∧ (arr, free).snd ≤ a) ∧ a + (⟨#[c]⟩ : Str).length ≤ x.length) ∧ PySem.Builtin.Str.subAt x ⟨#[c]⟩ a = true) := fun h => by have := h.1.2; omega
      unfold occBody
      rw [if_neg c2]
      have ih := occ_run x c lim n (a + 1) free arr (by omega) (by omega)
      unfold occBody at ih
      refine ih.trans ?_
      rw [List.drop_eq_nil_of_le (by rw [len_tl]; omega), List.drop_eq_nil_of_le (by rw [len_tl]; omega), cutsN_nil, cutsN_nil]
    · have ha : a < x.cps.toList.length := by rw [len_tl]; omega
      have dr := List.drop_eq_getElem_cons ha
      by_cases ec : x.cps.toList[a] = c
      · by_cases hs : arr.size < lim
        · have hc := one.mpr (by rw [List.getElem?_eq_getElem ha, ec])
          have c1 : (((arr, free).fst.size < lim ∧ (arr, free).snd ≤ a) ∧ a + (⟨#[c]⟩ : Str).length ≤ x.length) ∧ PySem.Builtin.Str.subAt x ⟨#[c]⟩ a = true := ⟨⟨⟨hs, hf⟩, hc.1⟩, hc.2⟩
          unfold occBody
          rw [if_pos c1]
          have ih := occ_run x c lim n (a + 1) (a + (⟨#[c]⟩ : Str).length) (arr.push a) (by omega) (by omega)
          unfold occBody at ih
          refine ih.trans ?_
          rw [dr, ec, show lim - arr.size = (lim - (arr.push a).size) + 1 by rw [Array.size_push]; omega, cutsN, if_pos rfl, Array.toList_push, List.append_assoc]; rfl
        · have c2 : ¬ ((((arr, free).fst.size < lim ∧ (arr, free).snd ≤ a) ∧ a + (⟨#[c]⟩ : Str).length ≤ x.length) ∧ PySem.Builtin.Str.subAt x ⟨#[c]⟩ a = true) := fun h => hs h.1.1.1
          unfold occBody
          rw [if_neg c2]
          have ih := occ_run x c lim n (a + 1) free arr (by omega) (by omega)
          unfold occBody at ih
          refine ih.trans ?_
          rw [show lim - arr.size = 0 by omega, cutsN_zero, cutsN_zero]
      · have c2 : ¬ ((((arr, free).fst.size < lim ∧ (arr, free).snd ≤ a) ∧ a + (⟨#[c]⟩ : Str).length ≤ x.length) ∧ PySem.Builtin.Str.subAt x ⟨#[c]⟩ a = true) := fun h => by
          have := one.mp ⟨h.1.2, h.2⟩
          rw [List.getElem?_eq_getElem ha] at this
          exact ec (Option.some.inj this)
        unfold occBody
        rw [if_neg c2]
        have ih := occ_run x c lim n (a + 1) free arr (by omega) (by omega)
        unfold occBody at ih
        refine ih.trans ?_
        rw [dr]
        cases lim - arr.size with
        | zero => rw [cutsN_zero, cutsN_zero]
        | succ m => rw [cutsN, if_neg ec]
def hdL (u : List Nat) : List (List Nat) → List (List Nat)
  | [] => [u]
  | p :: q => (u ++ p) :: q
def spN (c : Nat) : Nat → List Nat → List (List Nat)
  | 0, l => [l]
  | _ + 1, [] => [[]]
  | n + 1, a :: r => if a = c then [] :: spN c n r else hdL [a] (spN c (n + 1) r)
theorem spN_zero (c : Nat) (l : List Nat) : spN c 0 l = [l] := by simp [spN]
theorem spN_nil (c : Nat) : ∀ n : Nat, spN c n [] = [[]]
  | 0 => spN_zero c []
  | n + 1 => by simp [spN]
theorem spN_ne (c : Nat) : ∀ (n : Nat) (l : List Nat), ∃ p q, spN c n l = p :: q
  | 0, l => ⟨_, _, spN_zero c l⟩
  | n + 1, [] => ⟨_, _, spN_nil c (n + 1)⟩
  | n + 1, a :: r => by
    rw [spN]
    split
    · exact ⟨_, _, rfl⟩
    · obtain ⟨p, q, e⟩ := spN_ne c (n + 1) r
      rw [e]; exact ⟨_, _, rfl⟩
theorem hdL_nil {l : List (List Nat)} (h : ∃ p q, l = p :: q) : hdL [] l = l := by
  obtain ⟨p, q, rfl⟩ := h; rfl
theorem hdL_app {l : List (List Nat)} {u v : List Nat} (h : ∃ p q, l = p :: q) : hdL (u ++ v) l = hdL u (hdL v l) := by
  obtain ⟨p, q, rfl⟩ := h; show (u ++ v ++ p) :: q = (u ++ (v ++ p)) :: q; rw [List.append_assoc]
open PySem.StrLaws in
theorem parts_spN (x : Str) (c : Nat) : ∀ (m n s p : Nat), s ≤ p → p + m = x.length →
    (partsFrom x 1 s (cutsN c n p (x.cps.toList.drop p))).map (fun z : Str => z.cps.toList) = hdL ((x.cps.toList.drop s).take (p - s)) (spN c n (x.cps.toList.drop p)) := by
  have base : ∀ s p : Nat, s ≤ p → p ≤ x.length → ((PySem.Builtin.Str.strSub x s x.length).cps.toList : List Nat) = (x.cps.toList.drop s).take (p - s) ++ x.cps.toList.drop p := by
    intro s p hs hp
    rw [strSub_toList, List.take_of_length_le (by rw [List.length_drop, len_tl]; omega)]
    conv => lhs; rw [← List.take_append_drop (p - s) (x.cps.toList.drop s), List.drop_drop, show s + (p - s) = p by omega]
  intro m
  induction m with
  | zero =>
    intro n s p hs hp
    have e : x.cps.toList.drop p = [] := List.drop_eq_nil_of_le (by rw [len_tl]; omega)
    have b := base s p hs (by omega)
    rw [e] at b ⊢
    rw [cutsN_nil, spN_nil]
    show [(PySem.Builtin.Str.strSub x s x.length).cps.toList] = _
    rw [b]
    rfl
  | succ m ih =>
    intro n s p hs hp
    have b := base s p hs (by omega)
    cases n with
    | zero =>
      rw [cutsN_zero, spN_zero]
      show [(PySem.Builtin.Str.strSub x s x.length).cps.toList] = [_ ++ _]
      rw [b]
    | succ n =>
      have ha : p < x.cps.toList.length := by rw [len_tl]; omega
      have dr := List.drop_eq_getElem_cons ha
      rw [dr, cutsN, spN]
      by_cases ec : x.cps.toList[p] = c
      · rw [if_pos ec, if_pos ec]
        show (PySem.Builtin.Str.strSub x s p).cps.toList :: (partsFrom x 1 (p + 1) _).map _ = (_ ++ []) :: _
        rw [ih n (p + 1) (p + 1) (Nat.le_refl _) (by omega), Nat.sub_self, List.take_zero, hdL_nil (spN_ne ..), strSub_toList, List.append_nil]
      · rw [if_neg ec, if_neg ec, ih (n + 1) s (p + 1) (by omega) (by omega), ← hdL_app (spN_ne ..)]
        congr 1
        rw [show p + 1 - s = (p - s) + 1 by omega, List.take_add_one, List.getElem?_drop, show s + (p - s) = p by omega, List.getElem?_eq_getElem ha]
        rfl
theorem spN_free {c : Nat} : ∀ {l : List Nat} {n : Nat}, c ∉ l → spN c n l = [l]
  | _, 0, _ => spN_zero ..
  | [], n + 1, _ => spN_nil c (n + 1)
  | a :: r, n + 1, h => by
    rw [spN, if_neg (fun e => h (by rw [e]; exact List.mem_cons_self)), spN_free (fun m => h (List.mem_cons_of_mem _ m))]; rfl
open PySem.StrLaws in
theorem splitMax_tl (x : Str) (c : Nat) (k : Int) : (Txt.splitMax x ⟨#[c]⟩ k).map (fun z : Str => z.cps.toList) = spN c (PySem.limitOf x k) x.cps.toList := by
  have key : (PySem.Builtin.Str.partsBetween x (PySem.Builtin.Str.occurrences x ⟨#[c]⟩ 0 x.length (PySem.limitOf x k)) (⟨#[c]⟩ : Str).length).map (fun z : Str => z.cps.toList) = spN c (PySem.limitOf x k) x.cps.toList := by
    rw [partsBetween_eq, occ_eq, occ_run x c (PySem.limitOf x k) _ 0 0 #[] (Nat.le_refl _) (by omega)]
    have h := parts_spN x c x.length (PySem.limitOf x k) 0 0 (Nat.le_refl _) (by omega)
    rw [List.drop_zero, Nat.sub_self, List.take_zero, hdL_nil (spN_ne ..)] at h
    exact h
  unfold Txt.splitMax
  split
  · rename_i h
    rw [Bool.or_eq_true, decide_eq_true_eq, decide_eq_true_eq] at h
    show [x.cps.toList] = _
    rw [spN_free]
    rcases h with h | h
    · have h : x.length < 1 := h
      rw [List.eq_nil_of_length_eq_zero (l := x.cps.toList) (by rw [len_tl]; omega)]; simp
    · exact kind_free x c h
  · split
    · rename_i he
      rw [List.isEmpty_iff.mp he, partsBetween_eq] at key
      rw [← key]
      show [x.cps.toList] = [(PySem.Builtin.Str.strSub x 0 x.length).cps.toList]
      rw [sub_whole]
    · exact key
theorem split_tl (x : Str) (c : Nat) : (Txt.split x ⟨#[c]⟩).map (fun z : Str => z.cps.toList) = spN c (x.length + 1) x.cps.toList := by
  have h := splitMax_tl x c (-1)
  have e : PySem.limitOf x (-1) = x.length + 1 := if_pos (by decide)
  unfold Txt.splitMax at h
  rw [e] at h
  unfold Txt.split
  exact h
/-- without a limit -/
def spA (c : Nat) : List Nat → List (List Nat)
  | [] => [[]]
  | a :: r => if a = c then [] :: spA c r else hdL [a] (spA c r)
theorem spA_ne (c : Nat) : ∀ (l : List Nat), ∃ p q, spA c l = p :: q
  | [] => ⟨_, _, rfl⟩
  | a :: r => by
    rw [spA]
    split
    · exact ⟨_, _, rfl⟩
    · obtain ⟨p, q, e⟩ := spA_ne c r
      rw [e]; exact ⟨_, _, rfl⟩
theorem spN_all {c : Nat} : ∀ {l : List Nat} {n : Nat}, l.length < n → spN c n l = spA c l
  | [], n + 1, _ => spN_nil c (n + 1)
  | a :: r, n + 1, h => by
    rw [spN, spA]
    simp only [List.length_cons] at h
    split
    · cases n with
      | zero => omega
      | succ n => rw [spN_all (by omega)]
    · rw [spN_all (by omega)]
def jnL (c : Nat) : List (List Nat) → List Nat
  | [] => []
  | [x] => x
  | x :: y :: r => x ++ c :: jnL c (y :: r)
theorem jnL_hd {c a : Nat} {l : List (List Nat)} (h : ∃ p q, l = p :: q) : jnL c (hdL [a] l) = a :: jnL c l := by
  obtain ⟨p, q, rfl⟩ := h
  cases q <;> rfl
theorem jnL_spA (c : Nat) : ∀ l : List Nat, jnL c (spA c l) = l
  | [] => rfl
  | a :: r => by
    rw [spA]
    have ih := jnL_spA c r
    obtain ⟨p, q, e⟩ := spA_ne c r
    split
    · rename_i h
      rw [e] at ih ⊢
      show c :: jnL c (p :: q) = _
      rw [ih, h]
    · rw [jnL_hd ⟨_, _, e⟩, ih]
def limL (c : Nat) : Nat → List (List Nat) → List (List Nat)
  | 0, l => [jnL c l]
  | _ + 1, [] => []
  | _ + 1, [x] => [x]
  | n + 1, x :: y :: r => x :: limL c n (y :: r)
theorem lim_hd {c a : Nat} : ∀ {n : Nat} {l : List (List Nat)}, (∃ p q, l = p :: q) → limL c n (hdL [a] l) = hdL [a] (limL c n l)
  | 0, l, h => by show [jnL c (hdL [a] l)] = _; rw [jnL_hd h]; rfl
  | n + 1, l, h => by
    obtain ⟨p, q, rfl⟩ := h
    cases q <;> rfl
theorem spN_lim (c : Nat) : ∀ (n : Nat) (l : List Nat), spN c n l = limL c n (spA c l)
  | 0, l => by rw [spN_zero, limL, jnL_spA]
  | n + 1, [] => by rw [spN_nil]; rfl
  | n + 1, a :: r => by
    rw [spN, spA]
    split
    · obtain ⟨p, q, e⟩ := spA_ne c r
      rw [spN_lim c n r, e]
      rfl
    · rw [spN_lim c (n + 1) r, lim_hd (spA_ne c r)]
theorem spA_word {c : Nat} : ∀ {u : List Nat} (r : List Nat), c ∉ u → spA c (u ++ c :: r) = u :: spA c r
  | [], r, _ => by rw [List.nil_append, spA, if_pos rfl]
  | a :: u, r, h => by
    rw [List.cons_append, spA, if_neg (fun e => h (by rw [e]; exact List.mem_cons_self)), spA_word r (fun m => h (List.mem_cons_of_mem _ m))]; rfl
theorem spA_free {c : Nat} {u : List Nat} (h : c ∉ u) : spA c u = [u] := by
  rw [← spN_all (Nat.lt_succ_self _), spN_free h]
theorem spA_len (c : Nat) : ∀ l : List Nat, (spA c l).length ≤ l.length + 1
  | [] => Nat.le_refl _
  | a :: r => by
    have ih := spA_len c r
    obtain ⟨p, q, e⟩ := spA_ne c r
    rw [spA, List.length_cons]
    split
    · rw [List.length_cons]; omega
    · rw [e] at ih ⊢
      show ((p :: q).length) ≤ _
      omega
theorem spA_short (c : Nat) : ∀ (l : List Nat), ∀ p ∈ spA c l, p.length ≤ l.length
  | [], p, hp => by rw [List.mem_singleton.mp hp]; exact Nat.le_refl _
  | a :: r, p, hp => by
    have ih := spA_short c r
    rw [spA] at hp
    rw [List.length_cons]
    split at hp
    · rcases List.mem_cons.mp hp with rfl | hp
      · exact Nat.zero_le _
      · have := ih p hp; omega
    · obtain ⟨u, q, e⟩ := spA_ne c r
      rw [e] at hp ih
      rcases List.mem_cons.mp hp with rfl | hp
      · have := ih u List.mem_cons_self
        simp only [List.length_append, List.length_cons, List.length_nil]; omega
      · have := ih p (List.mem_cons_of_mem _ hp); omega
theorem jnL_len_sum (c : Nat) : ∀ (l : List (List Nat)), (l.map (·.length)).sum ≤ (jnL c l).length
  | [] => Nat.le_refl _
  | [x] => by simp [jnL]
  | x :: y :: r => by
    have ih := jnL_len_sum c (y :: r)
    rw [List.map_cons, List.sum_cons, jnL, List.length_append, List.length_cons]; omega
theorem strjoin_tl (c : Nat) : ∀ ls : List (List Nat), (Str.join ⟨#[c]⟩ (ls.map fun l => (⟨l.toArray⟩ : Str))).cps.toList = jnL c ls
  | [] => rfl
  | [x] => rfl
  | x :: y :: r => by
    have ih := strjoin_tl c (y :: r)
    show ((⟨x.toArray⟩ : Str) ++ ⟨#[c]⟩ ++ Str.join ⟨#[c]⟩ ((y :: r).map fun l => (⟨l.toArray⟩ : Str))).cps.toList = _
    rw [app_tl, app_tl, ih, List.append_assoc]; rfl
theorem txtjoin_tl (c : Nat) (ls : List (List Nat)) : Txt.join ⟨#[c]⟩ (ls.map fun l => (⟨l.toArray⟩ : Str)) = ⟨(jnL c ls).toArray⟩ := by
  rw [eq_of_beq (join_closes (sep' := (⟨#[c]⟩ : Str)) rfl)]
  exact str_eq_l.mpr (strjoin_tl c ls)
theorem of_tl {ys : List Str} {ls : List (List Nat)} (h : ys.map (fun z : Str => z.cps.toList) = ls) : ys = ls.map fun l => (⟨l.toArray⟩ : Str) := by
  rw [← h, List.map_map]
  conv => lhs; rw [← List.map_id ys]
  exact List.map_congr_left fun z _ => rfl
theorem limL_len (c : Nat) : ∀ (n : Nat) (l : List (List Nat)), (limL c n l).length ≤ n + 1
  | 0, l => Nat.le_refl _
  | n + 1, [] => Nat.zero_le _
  | n + 1, [x] => by show 1 ≤ _; omega
  | n + 1, x :: y :: r => by
    have := limL_len c n (y :: r)
    show (limL c n (y :: r)).length + 1 ≤ _
    omega
theorem limL_short (c : Nat) : ∀ (n : Nat) (l : List (List Nat)), ∀ p ∈ limL c n l, p.length ≤ (jnL c l).length
  | 0, l, p, hp => by rw [List.mem_singleton.mp hp]; exact Nat.le_refl _
  | n + 1, [], p, hp => nomatch hp
  | n + 1, [x], p, hp => by rw [List.mem_singleton.mp hp]; exact Nat.le_refl _
  | n + 1, x :: y :: r, p, hp => by
    rw [jnL, List.length_append, List.length_cons]
    rcases List.mem_cons.mp hp with rfl | hp
    · omega
    · have := limL_short c n (y :: r) p hp
      omega

/-! ### data whose lists are none of a list that changes -/
section
variable {K : PySem.W.Frag}
mutual
theorem Dt.chg {H H' : Hp} {D : Addr} {zs : List V} (e : H D = some (.lst zs)) (s : ∀ b o, b ≠ D → H b = some o → H' b = some o) : ∀ (d : PyData) (v : V), Dt K H (some D) v d → Dt K H' (some D) v d
  | .none, _, h => by cases h; exact .non
  | .bool b, _, h => by cases h; exact .bl b
  | .int i, _, h => by cases h; exact .int i
  | .str z, _, h => by cases h with | str _ hz => exact .str z hz
  | .list ds, _, h => by cases h with | lst hn ha hd => exact .lst hn (s _ _ hn ha) (DtAll.chg e s ds _ hd)
  | .tuple ds, _, h => by cases h with | tup ha hd => exact .tup (ha.imp (fun ha => s _ _ (ne_of ha e (by intro z; cases z)) ha) id) (DtAll.chg e s ds _ hd)
  | .dict _, _, h => by cases h
theorem DtAll.chg {H H' : Hp} {D : Addr} {zs : List V} (e : H D = some (.lst zs)) (s : ∀ b o, b ≠ D → H b = some o → H' b = some o) : ∀ (ds : List PyData) (xs : List V), DtAll K H (some D) xs ds → DtAll K H' (some D) xs ds
  | [], _, h => by cases h; exact .nil
  | d :: ds, _, h => by cases h with | cons h1 h2 => exact .cons (Dt.chg e s d _ h1) (DtAll.chg e s ds _ h2)
end
mutual
theorem Dt.frees {H : Hp} {A : Option Addr} : ∀ (d : PyData) (v : V), Dt K H A v d → Dt K H none v d
  | .none, _, h => by cases h; exact .non
  | .bool b, _, h => by cases h; exact .bl b
  | .int i, _, h => by cases h; exact .int i
  | .str z, _, h => by cases h with | str _ hz => exact .str z hz
  | .list ds, _, h => by cases h with | lst hn ha hd => exact .lst trivial ha (DtAll.frees ds _ hd)
  | .tuple ds, _, h => by cases h with | tup ha hd => exact .tup ha (DtAll.frees ds _ hd)
  | .dict _, _, h => by cases h
theorem DtAll.frees {H : Hp} {A : Option Addr} : ∀ (ds : List PyData) (xs : List V), DtAll K H A xs ds → DtAll K H none xs ds
  | [], _, h => by cases h; exact .nil
  | d :: ds, _, h => by cases h with | cons h1 h2 => exact .cons (Dt.frees d _ h1) (DtAll.frees ds _ h2)
end
theorem DtAll.snoc2 {H : Hp} {A : Option Addr} {v : V} {d : PyData} : ∀ {xs : List V} {ds : List PyData}, DtAll K H A xs ds → Dt K H A v d → DtAll K H A (xs ++ [v]) (ds ++ [d])
  | _, _, .nil, h => .cons h .nil
  | _, _, .cons h1 h2, h => .cons h1 (DtAll.snoc2 h2 h)
end

def wrd (l : List Nat) : V := .str ⟨l.toArray⟩
def BadAt (H : Hp) (d : Addr) (r : Str) (k : Nat) : Prop := H d = some (.xd [("statement", .int k), ("reason", .str r)])
def spPartsOf (C : Addr) : Sp := fun vs H Q E => ∃ (z : Str), vs = [.str z] ∧ z.length ≤ 10000 ∧
  (z.length ≤ 240 → isPr z = true → ∀ H' b, Same H H' → H' b = some (.lst ((spA 59 z.cps.toList).map wrd)) → Q (.ref b) H') ∧
  (240 < z.length → ∀ H' d, Same H H' → BadAt H' d "long" 0 → E (.ref C) (some d) H') ∧ (z.length ≤ 240 → isPr z = false → ∀ H' d, Same H H' → BadAt H' d "character" 0 → E (.ref C) (some d) H')
def spWordsOf (C : Addr) : Sp := fun vs H Q E => ∃ (p : List Nat) (i : Nat), vs = [wrd p, .int i] ∧ p.length ≤ 1000 ∧
  (p ≠ [] → [] ∉ spA 32 p → ∀ H' b, Same H H' → H b = none → H' b = some (.lst ((spA 32 p).map wrd)) → Q (.ref b) H') ∧
  (p = [] → ∀ H' d, Same H H' → BadAt H' d "empty" i → E (.ref C) (some d) H') ∧ (p ≠ [] → [] ∈ spA 32 p → ∀ H' d, Same H H' → BadAt H' d "space" i → E (.ref C) (some d) H')
theorem split_wrdC (c : Nat) (z : Str) : ((Txt.split z ⟨#[c]⟩).map V.str) = (spA c z.cps.toList).map wrd := by
  have h := of_tl ((split_tl z c).trans (spN_all (by rw [len_tl]; omega)))
  rw [h, List.map_map]; rfl
theorem sgn1 : Str.ofString " " = ⟨#[32]⟩ ∧ Str.ofString ";" = ⟨#[59]⟩ := ⟨by decide, by decide⟩
theorem wl (l : List Nat) : (⟨l.toArray⟩ : Str).length = l.length := by show l.toArray.size = _; rw [List.size_toArray]
theorem in_wrd (ls : List (List Nat)) : inV (.str (Str.ofString "")) (ls.map wrd) = decide ([] ∈ ls) := by
  unfold inV
  induction ls with
  | nil => rfl
  | cons l r ih =>
    rw [List.map_cons, List.any_cons, ih]
    have e : eqV (wrd l) (.str (Str.ofString "")) = decide ([] = l) := by
      show ((⟨l.toArray⟩ : Str) == Str.ofString "") = _
      by_cases h : [] = l
      · subst h; rfl
      · rw [decide_eq_false h]
        exact beq_eq_false_iff_ne.mpr fun z => h (congrArg (fun s : Str => s.cps.toList) z).symm
    rw [e, ← Bool.decide_or]
    exact decide_eq_decide.mpr List.mem_cons.symm
theorem flat_wrd (ls : List (List Nat)) : (ls.map wrd).all flatV = true := by
  rw [List.all_map]; exact List.all_eq_true.mpr fun _ _ => rfl
theorem row_dt {K : PySem.W.Frag} {H : Hp} {A : Option Addr} : ∀ (ls : List (List Nat)), (∀ l ∈ ls, l.length ≤ 1000000) → DtAll K H A (ls.map wrd) (ls.map fun l => PyData.str ⟨l.toArray⟩)
  | [], _ => .nil
  | l :: r, h => .cons (.str _ (by rw [wl]; exact h l List.mem_cons_self)) (row_dt r fun x m => h x (List.mem_cons_of_mem _ m))
section
variable {P : Program} {w : World} {K : PySem.W.Frag} {mg : Str → Option Value} {base : Heap}
theorem c_parts_of {C_BadCommand : Addr} {C_VERBS : Addr} (T : Txt K mg w C_BadCommand C_VERBS) : CalX P w K mg base 3 "parts_of" (spPartsOf C_BadCommand) := by
  have c_is_printable := c_is_printable (P := P) (w := w) (base := base) T
  have i_BadCommand := i_BadCommand (P := P) (w := w) (base := base) T
  refine calX T.d_parts_of sc_parts_of (fun vs H Q E h => ?_) (fun f cdv A' outer s H vs Q E hr h => ?_)
  · obtain ⟨z, rfl, _⟩ := h; rfl
  obtain ⟨z, rfl, hz, q, e1, e2⟩ := h
  refine ⟨_, (pss_cons (ps_if (pt_cmpR op_gt (pe_callB call_len_str (by rfl) T.z_len (by decide +kernel) (pa_cons (pv 0) pa_nil)) (pe_gc (by rfl) T.c_MOST_TEXT) (nomark _)) (pss_one (ps_raise rfl (takes_of rfl rfl rfl rfl) (pmk_ei i_BadCommand hr (by decide) (by rfl) (pa_cons pe_str (pa_cons pe_int pa_nil))))) pss_nil)
      (pss_cons (ps_if (pt_not (pt_val (pe_c c_is_printable hr (by decide) (by rfl) (pa_cons (pv 0) pa_nil)))) (pss_one (ps_raise rfl (takes_of rfl rfl rfl rfl) (pmk_ei i_BadCommand hr (by decide) (by rfl) (pa_cons pe_str (pa_cons pe_int pa_nil))))) pss_nil)
      (pss_one (ps_ret (pe_split (pv 0) pe_str))))), ?_⟩
  walk_at "rds"
  by_cases h240 : 240 < z.length
  · refine ifT (decide_eq_true (by omega)) ?_
    walk_at "rds"
    exact mk_two fun H' d s1 _ hd => e1 h240 H' d s1 hd
  refine ifF (decide_eq_false (by omega)) ?_
  walk_at "rds"
  refine .inl ⟨z, rfl, by omega, fun H1 s1 => ?_⟩
  walk_at "rds"
  cases hp : isPr z with
  | false =>
    refine ifT rfl ?_
    walk_at "rds"
    exact mk_two fun H' d s2 _ hd => e2 (by omega) hp H' d (s1.trans s2) hd
  | true =>
  refine ifF rfl ?_
  walk_at "rds"
  have sl := sizeLine_eq
  refine ⟨_, _, rfl, rfl, rfl, by omega, fun p hp2 => ?_⟩
  rw [sgn1.2, split_wrdC]
  exact q (by omega) hp _ _ (s1.trans (same_upd hp2)) upd_same
theorem c_words_of {C_BadCommand : Addr} {C_VERBS : Addr} (T : Txt K mg w C_BadCommand C_VERBS) : CalX P w K mg base 3 "words_of" (spWordsOf C_BadCommand) := by
  have i_BadCommand := i_BadCommand (P := P) (w := w) (base := base) T
  refine calX T.d_words_of sc_words_of (fun vs H Q E h => ?_) (fun f cdv A' outer s H vs Q E hr h => ?_)
  · obtain ⟨z, i, rfl, _⟩ := h; rfl
  obtain ⟨z, i, rfl, hz, q, e1, e2⟩ := h
  refine ⟨_, (pss_cons (ps_if (pt_cmpR op_eq (pv 0) pe_str (nomark _)) (pss_one (ps_raise rfl (takes_of rfl rfl rfl rfl) (pmk_ei i_BadCommand hr (by decide) (by rfl) (pa_cons pe_str (pa_cons (pv 1) pa_nil))))) pss_nil)
      (pss_cons (ps_set (i := 2) sc_words_of.nd rfl (Or.inl rfl) (pe_split (pv 0) pe_str))
      (pss_cons (ps_if (pt_cmpR (kin (K := K)) pe_str (pv 2) (by rfl)) (pss_one (ps_raise rfl (takes_of rfl rfl rfl rfl) (pmk_ei i_BadCommand hr (by decide) (by rfl) (pa_cons pe_str (pa_cons (pv 1) pa_nil))))) pss_nil)
      (pss_one (ps_ret (pv 2)))))), ?_⟩
  walk_at "rds"
  have ez : decide (wrd z = V.str (Str.ofString "")) = decide (z = []) := by
    apply decide_eq_decide.mpr
    exact ⟨fun h => congrArg (fun v => match v with | V.str s => s.cps.toList | _ => []) h, fun h => by rw [h]; rfl⟩
  rw [ez]
  by_cases h0 : z = []
  · refine ifT (decide_eq_true h0) ?_
    walk_at "rds"
    exact mk_two fun H' d s1 _ hd => e1 h0 H' d s1 hd
  refine ifF (decide_eq_false h0) ?_
  walk_at "rds"
  have sl := sizeLine_eq
  refine ⟨⟨z.toArray⟩, _, rfl, rfl, rfl, by rw [wl]; omega, fun p hp2 => ?_⟩
  rw [sgn1.1, split_wrdC]
  have s1 : Same H (upd H p (.lst ((spA 32 (⟨z.toArray⟩ : Str).cps.toList).map wrd))) := same_upd hp2
  have hp3 : upd H p (.lst ((spA 32 (⟨z.toArray⟩ : Str).cps.toList).map wrd)) p = some (.lst ((spA 32 z).map wrd)) := upd_same
  generalize upd H p (.lst ((spA 32 (⟨z.toArray⟩ : Str).cps.toList).map wrd)) = H1 at s1 hp3 ⊢
  walk_at "rds"
  refine ⟨p, _, rfl, .inl (sq hp3), rfl, flat_wrd _, ?_⟩
  walk_at "rds"
  rw [if_neg Bool.false_ne_true, in_wrd]
  by_cases hb : [] ∈ spA 32 z
  · refine ifT (decide_eq_true hb) ?_
    walk_at "rds"
    exact mk_two fun H' d s2 _ hd => e2 h0 hb H' d (s1.trans s2) hd
  refine ifF (decide_eq_false hb) ?_
  walk_at "rds"
  exact q h0 hb _ _ s1 hp2 hp3
end

/-! ### commands, without Python -/
def verbT : List (Str × List Str) := [("open", ["name"]), ("close", ["name"]), ("issue", ["name", "amount"]), ("burn", ["name", "amount"]), ("pay", ["name", "name", "amount"]), ("balance", ["name"]), ("atleast", ["name", "amount"]), ("hold", ["name", "name", "amount", "key"]), ("settle", ["key"]), ("release", ["key"]), ("put", ["key", "value"]), ("get", ["key"]), ("drop", ["key"]), ("swap", ["key", "value", "value"]), ("same", ["key", "value"]), ("keys", ["key"])]
def kindOk (k : Str) (l : List Nat) : Bool := if k = "name" then nmL l else if k = "amount" then amL l else if k = "key" then kyL l else vlL l
def dvL (l : List Nat) : Nat := PySem.NumText.digitsVal l
def argV (k : Str) (l : List Nat) : V := if k = "amount" then .int (dvL l) else .str ⟨l.toArray⟩
def argD (k : Str) (l : List Nat) : PyData := if k = "amount" then .int (dvL l) else .str ⟨l.toArray⟩
/-- the first argument that is none of its kind -/
def argBad : List Str → List (List Nat) → Option Str
  | k :: ks, l :: ls => if kindOk k l = true then argBad ks ls else some k
  | _, _ => none
def argsV : List Str → List (List Nat) → List V
  | k :: ks, l :: ls => argV k l :: argsV ks ls
  | _, _ => []
/-- a statement of words -/
def psW (i : Nat) : List (List Nat) → (Str × Nat) ⊕ List V
  | v :: ws => match verbT.lookup ⟨v.toArray⟩ with
    | none => .inl (Str.ofString "verb", i)
    | some ks => if ws.length = ks.length then (match argBad ks ws with
      | some k => .inl (k, i)
      | none => .inr (.str ⟨v.toArray⟩ :: argsV ks ws)) else .inl (Str.ofString "count", i)
  | [] => .inr []
theorem psW_some {i : Nat} {v : List Nat} {ws : List (List Nat)} {ks : List Str} (h : verbT.lookup (⟨v.toArray⟩ : Str) = some ks) : psW i (v :: ws) = if ws.length = ks.length then (match argBad ks ws with
      | some k => .inl (k, i)
      | none => .inr (.str ⟨v.toArray⟩ :: argsV ks ws)) else .inl (Str.ofString "count", i) := by
  simp only [psW, h]
theorem psW_none {i : Nat} {v : List Nat} {ws : List (List Nat)} (h : verbT.lookup (⟨v.toArray⟩ : Str) = none) : psW i (v :: ws) = .inl (Str.ofString "verb", i) := by
  simp only [psW, h]
def psR (i : Nat) (p : List Nat) : (Str × Nat) ⊕ List V := if p = [] then .inl (Str.ofString "empty", i) else if [] ∈ spA 32 p then .inl (Str.ofString "space", i) else psW i (spA 32 p)

def spKind (K : PySem.W.Frag) : Sp := fun vs H Q _ => ∃ (k : Str) (l : List Nat), vs = [.str k, wrd l] ∧ l.length ≤ 1000 ∧ ∀ H', Same H H' → Q (.bl (kindOk k l)) H'
def spArg (C : Addr) : Sp := fun vs H Q E => ∃ (k : Str) (l : List Nat) (i : Nat), vs = [.str k, wrd l, .int i] ∧ l.length ≤ 1000 ∧ (kindOk k l = true → ∀ H', Same H H' → Q (argV k l) H') ∧ (kindOk k l = false → ∀ H' d, Same H H' → BadAt H' d k i → E (.ref C) (some d) H')
theorem cutV_from {xs : List V} {i : Nat} : cutV xs (some (i : Int)) none = xs.drop i := by
  unfold cutV
  rw [HT.sIx_none, HT.sIx_nat]
  by_cases g : i ≤ xs.length
  · rw [Nat.min_eq_left g, List.take_of_length_le (by rw [List.length_drop]; omega)]
  · rw [show min i xs.length = xs.length from Nat.min_eq_right (by omega), List.drop_of_length_le (Nat.le_refl _), List.drop_of_length_le (by omega), List.take_nil]
theorem same_none {H H' : Hp} {a : Addr} (s : Same H H') (z : H' a = none) : H a = none := by
  cases e : H a with
  | none => rfl
  | some u => rw [s _ _ e] at z; cases z
theorem amt_int {l : List Nat} (h : amL l = true) : PySem.intText? (⟨l.toArray⟩ : Str) = some (dvL l : Int) ∧ (⟨l.toArray⟩ : Str).length ≤ 640 := by
  unfold amL at h
  rw [Bool.and_eq_true] at h
  have hl := of_decide_eq_true h.1
  obtain ⟨d1, d2, d3⟩ := dcL_iff.mp h.2
  exact ⟨PySem.intText_digits (x := ⟨l.toArray⟩) d2 d1 (by rw [wl]; omega), by rw [wl]; omega⟩
theorem lookup_mem {α : Type} : ∀ {l : List (Str × α)} {z : Str} {x : α}, l.lookup z = some x → (z, x) ∈ l
  | (k, y) :: r, z, x, h => by
    rw [List.lookup_cons] at h
    split at h
    · rename_i e
      have e : z = k := by simpa using e
      cases h
      rw [e]; exact List.mem_cons_self
    · exact List.mem_cons_of_mem _ (lookup_mem h)
theorem argBad_step {ks : List Str} {ws : List (List Nat)} {i : Nat} {k : Str} {l : List Nat} (h1 : ks[i]? = some k) (h2 : ws[i]? = some l) :
    argBad (ks.drop i) (ws.drop i) = (if kindOk k l = true then argBad (ks.drop (i + 1)) (ws.drop (i + 1)) else some k) ∧ argsV (ks.drop i) (ws.drop i) = argV k l :: argsV (ks.drop (i + 1)) (ws.drop (i + 1)) := by
  obtain ⟨a1, b1⟩ := List.getElem?_eq_some_iff.mp h1
  obtain ⟨a2, b2⟩ := List.getElem?_eq_some_iff.mp h2
  rw [List.drop_eq_getElem_cons a1, List.drop_eq_getElem_cons a2, b1, b2]
  exact ⟨rfl, rfl⟩
theorem argBad_end {ks : List Str} {ws : List (List Nat)} {i : Nat} (h : ks.length ≤ i) : argBad (ks.drop i) (ws.drop i) = none ∧ argsV (ks.drop i) (ws.drop i) = [] := by
  rw [List.drop_eq_nil_of_le h]; exact ⟨rfl, rfl⟩
section
variable {P : Program} {w : World} {K : PySem.W.Frag} {mg : Str → Option Value} {base : Heap}
theorem verbs_in {C_BadCommand : Addr} {C_VERBS : Addr} (T : Txt K mg w C_BadCommand C_VERBS) {z : Str} {ks : List Str} (h : (z, ks) ∈ verbT) : ∃ a, KDct K w C_VERBS z (.ref a) ∧ KTup K a (ks.map V.str) := by
  simp only [verbT, List.mem_cons, List.not_mem_nil, or_false, Prod.mk.injEq] at h
  rcases h with ⟨rfl, rfl⟩ | ⟨rfl, rfl⟩ | ⟨rfl, rfl⟩ | ⟨rfl, rfl⟩ | ⟨rfl, rfl⟩ | ⟨rfl, rfl⟩ | ⟨rfl, rfl⟩ | ⟨rfl, rfl⟩ | ⟨rfl, rfl⟩ | ⟨rfl, rfl⟩ | ⟨rfl, rfl⟩ | ⟨rfl, rfl⟩ | ⟨rfl, rfl⟩ | ⟨rfl, rfl⟩ | ⟨rfl, rfl⟩ | ⟨rfl, rfl⟩
  · exact T.ki_VERBS_0
  · exact T.ki_VERBS_1
  · exact T.ki_VERBS_2
  · exact T.ki_VERBS_3
  · exact T.ki_VERBS_4
  · exact T.ki_VERBS_5
  · exact T.ki_VERBS_6
  · exact T.ki_VERBS_7
  · exact T.ki_VERBS_8
  · exact T.ki_VERBS_9
  · exact T.ki_VERBS_10
  · exact T.ki_VERBS_11
  · exact T.ki_VERBS_12
  · exact T.ki_VERBS_13
  · exact T.ki_VERBS_14
  · exact T.ki_VERBS_15
end
section
variable {P : Program} {w : World} {K : PySem.W.Frag} {mg : Str → Option Value} {base : Heap}
theorem c_is_of_kind {C_BadCommand : Addr} {C_VERBS : Addr} (T : Txt K mg w C_BadCommand C_VERBS) : Cal P w K mg base 4 "is_of_kind" (spKind K) [] := by
  have c_is_name := c_is_name (P := P) (w := w) (base := base) T
  have c_is_amount := c_is_amount (P := P) (w := w) (base := base) T
  have c_is_key := c_is_key (P := P) (w := w) (base := base) T
  have c_is_value := c_is_value (P := P) (w := w) (base := base) T
  refine cal T.d_is_of_kind sc_is_of_kind (fun vs H Q E h => ?_) (fun f cdv A' outer s H vs Q E hr h => ?_)
  · obtain ⟨k, l, rfl, _⟩ := h; rfl
  obtain ⟨k, l, rfl, hl, q⟩ := h
  refine ⟨_, (pss_cons (ps_if (pt_cmpR op_eq (pv 0) pe_str (nomark _)) (pss_one (ps_ret (pe_c c_is_name hr (by decide) (by rfl) (pa_cons (pv 1) pa_nil)))) pss_nil)
      (pss_cons (ps_if (pt_cmpR op_eq (pv 0) pe_str (nomark _)) (pss_one (ps_ret (pe_c c_is_amount hr (by decide) (by rfl) (pa_cons (pv 1) pa_nil)))) pss_nil)
      (pss_cons (ps_if (pt_cmpR op_eq (pv 0) pe_str (nomark _)) (pss_one (ps_ret (pe_c c_is_key hr (by decide) (by rfl) (pa_cons (pv 1) pa_nil)))) pss_nil)
      (pss_one (ps_ret (pe_c c_is_value hr (by decide) (by rfl) (pa_cons (pv 1) pa_nil))))))), ?_⟩
  have ek : ∀ z : Str, decide (V.str k = V.str z) = decide (k = z) := fun z => decide_eq_decide.mpr ⟨fun h => V.str.inj h, fun h => by rw [h]⟩
  walk_at "rds"
  unfold kindOk at q
  by_cases h1 : k = "name"
  · rw [if_pos h1] at q
    refine ifT ((ek _).trans (decide_eq_true h1)) ?_
    walk_at "rds"
    exact ⟨by rw [wl]; omega, q⟩
  rw [if_neg h1] at q
  refine ifF ((ek _).trans (decide_eq_false h1)) ?_
  walk_at "rds"
  by_cases h2 : k = "amount"
  · rw [if_pos h2] at q
    refine ifT ((ek _).trans (decide_eq_true h2)) ?_
    walk_at "rds"
    exact ⟨by rw [wl]; omega, q⟩
  rw [if_neg h2] at q
  refine ifF ((ek _).trans (decide_eq_false h2)) ?_
  walk_at "rds"
  by_cases h3 : k = "key"
  · rw [if_pos h3] at q
    refine ifT ((ek _).trans (decide_eq_true h3)) ?_
    walk_at "rds"
    exact ⟨by rw [wl]; omega, q⟩
  rw [if_neg h3] at q
  refine ifF ((ek _).trans (decide_eq_false h3)) ?_
  walk_at "rds"
  exact ⟨by rw [wl]; omega, q⟩
theorem c_parse_argument {C_BadCommand : Addr} {C_VERBS : Addr} (T : Txt K mg w C_BadCommand C_VERBS) : CalX P w K mg base 5 "parse_argument" (spArg C_BadCommand) := by
  have c_is_of_kind := c_is_of_kind (P := P) (w := w) (K := K) (base := base) T
  have i_BadCommand := i_BadCommand (P := P) (w := w) (base := base) T
  refine calX T.d_parse_argument sc_parse_argument (fun vs H Q E h => ?_) (fun f cdv A' outer s H vs Q E hr h => ?_)
  · obtain ⟨k, l, i, rfl, _⟩ := h; rfl
  obtain ⟨k, l, i, rfl, hl, q, e⟩ := h
  refine ⟨_, (pss_cons (ps_if (pt_not (pt_val (pe_c c_is_of_kind hr (by decide) (by rfl) (pa_cons (pv 0) (pa_cons (pv 1) pa_nil))))) (pss_one (ps_raise rfl (takes_of rfl rfl rfl rfl) (pmk_ei i_BadCommand hr (by decide) (by rfl) (pa_cons (pv 0) (pa_cons (pv 2) pa_nil))))) pss_nil)
      (pss_cons (ps_if (pt_cmpR op_eq (pv 0) pe_str (nomark _)) (pss_one (ps_ret (pe_callTy call_int_str (by rfl) T.z_int (by decide +kernel) (pa_cons (pv 1) pa_nil)))) pss_nil)
      (pss_one (ps_ret (pv 1))))), ?_⟩
  walk_at "rds"
  delta tNil
  refine ⟨k, l, rfl, hl, fun H1 s1 => ?_⟩
  walk_at "rds"
  cases hk : kindOk k l with
  | false =>
    refine ifT rfl ?_
    walk_at "rds"
    exact mk_two fun H' d s2 _ hd => e hk H' d (s1.trans s2) hd
  | true =>
  have q := q hk H1 s1
  unfold argV at q
  refine ifF rfl ?_
  walk_at "rds"
  by_cases h2 : k = "amount"
  · rw [if_pos h2] at q
    refine ifT (decide_eq_true (by rw [h2])) ?_
    walk_at "rds"
    have ha : amL l = true := by
      unfold kindOk at hk
      rw [if_neg (by rw [h2]; decide +kernel), if_pos h2] at hk
      exact hk
    obtain ⟨a1, a2⟩ := amt_int ha
    exact ⟨_, _, rfl, a1, a2, q⟩
  rw [if_neg h2] at q
  refine ifF (decide_eq_false (fun z => h2 (V.str.inj z))) ?_
  walk_at "rds"
  exact q
theorem c_parse_statement {C_BadCommand : Addr} {C_VERBS : Addr} (T : Txt K mg w C_BadCommand C_VERBS) : CalX P w K mg base 6 "parse_statement" (fun vs H Q E => ∃ (p : List Nat) (i : Nat), vs = [wrd p, .int i] ∧ p.length ≤ 1000 ∧
    (∀ v ws, spA 32 p = v :: ws → verbT.lookup ⟨v.toArray⟩ = none → PySem.W.nsIn K C_VERBS ⟨v.toArray⟩ = some none) ∧
    (∀ xs, psR i p = .inr xs → ∀ H' b, Same H H' → H b = none → H' b = some (.tup xs) → Q (.ref b) H') ∧ (∀ r k, psR i p = .inl (r, k) → ∀ H' d, Same H H' → BadAt H' d r k → E (.ref C_BadCommand) (some d) H')) := by
  have c_words_of := c_words_of (P := P) (w := w) (K := K) (base := base) T
  have c_parse_argument := c_parse_argument (P := P) (w := w) (K := K) (base := base) T
  have i_BadCommand := i_BadCommand (P := P) (w := w) (base := base) T
  refine calX T.d_parse_statement sc_parse_statement (fun vs H Q E h => ?_) (fun f cdv A' outer s H vs Q E hr h => ?_)
  · obtain ⟨k, l, rfl, _⟩ := h; rfl
  obtain ⟨p, i, rfl, hl, hv, q, e⟩ := h
  refine ⟨_, (pss_cons (ps_set (i := 2) sc_parse_statement.nd rfl (Or.inl rfl) (pe_cX c_words_of hr (by decide) (by rfl) (fun σ => passAt (takes_of rfl rfl rfl rfl) σ) (pa_cons (pv 0) (pa_cons (pv 1) pa_nil))))
      (pss_cons (ps_if (pt_cmpR (kdnin T.kd_VERBS) (pe_ix (kixl (K := K)) (pv 2) pe_int (fun _ _ => rfl)) (pe_gc (v := .ref C_VERBS) (by rfl) ⟨_, T.g_VERBS, rfl⟩) (by rfl)) (pss_one (ps_raise rfl (takes_of rfl rfl rfl rfl) (pmk_ei i_BadCommand hr (by decide) (by rfl) (pa_cons pe_str (pa_cons (pv 1) pa_nil))))) pss_nil)
      (pss_cons (ps_set (i := 3) sc_parse_statement.nd rfl (Or.inl rfl) (pe_ix ix_kdict (pe_gc (v := .ref C_VERBS) (by rfl) ⟨_, T.g_VERBS, rfl⟩) (pe_ix (kixl (K := K)) (pv 2) pe_int (fun _ _ => rfl)) (fun _ _ => rfl)))
      (pss_cons (ps_if (pt_cmpR op_ne (pe_callB (klen (K := K)) (by rfl) T.z_len (by decide +kernel) (pa_cons (pv 2) pa_nil)) (pe_op op_add (pe_callB (klen (K := K)) (by rfl) T.z_len (by decide +kernel) (pa_cons (pv 3) pa_nil)) pe_int) (nomark _)) (pss_one (ps_raise rfl (takes_of rfl rfl rfl rfl) (pmk_ei i_BadCommand hr (by decide) (by rfl) (pa_cons pe_str (pa_cons (pv 1) pa_nil))))) pss_nil)
      (pss_cons (ps_setLcX (i := 4) (own := [("kind", 5), ("word", 6)]) (g := _) rfl sc_parse_statement.nd rfl rfl (sw_true rfl rfl rfl (by decide +kernel)) rfl rfl (takes_of rfl rfl rfl rfl) (pi_zipM (by rfl) T.z_zip (pa_cons (pv 3) (pa_cons (pe_slice (ksll (K := K)) (pv 2) (po_some pe_int) po_none) pa_nil))) (blkOk_by (own := [("kind", 5), ("word", 6)]) (N := ["part", "index", "words", "kinds", "arguments", "kind", "word"]) (sc := defScope s_parse_statement) (by decide +kernel)) (fun _ _ _ _ _ _ => kgtup (K := K) (n := 2) (by rfl) (pgs_cons (pg_name (i := 5) sc_parse_statement.nd rfl (Or.inl rfl)) (pgs_cons (pg_name (i := 6) sc_parse_statement.nd rfl (Or.inl rfl)) pgs_nil))) (fun _ _ _ _ _ _ => pts_nil) (fun _ _ _ _ _ _ hx => (pe_cX c_parse_argument hr (by decide) (by rfl) (fun σ => hx σ) (pa_cons (pv 5) (pa_cons (pv 6) (pa_cons (pv 1) pa_nil))))))
      (pss_one (ps_ret (pe_callTy call_tuple_of (by rfl) T.z_tuple (by decide +kernel) (pa_cons (pe_op op_cat (pe_lst (pa_cons (pe_ix (kixl (K := K)) (pv 2) pe_int (fun _ _ => rfl)) pa_nil)) (pv 4)) pa_nil))))))))), ?_⟩
  walk_at "rds"
  delta tNil
  unfold psR at q e
  refine ⟨p, i, rfl, hl, fun h1 h2 H1 b s1 nb hb => ?_, fun h1 H' d s1 hd => e _ _ (by rw [if_pos h1]) H' d s1 hd, fun h1 h2 H' d s1 hd => e _ _ (by rw [if_neg h1, if_pos h2]) H' d s1 hd⟩
  rw [if_neg h1, if_neg h2] at q e
  have sh := spA_short 32 p
  have sn := spA_len 32 p
  obtain ⟨v, ws, ev⟩ := spA_ne 32 p
  have hv := hv v ws ev
  rw [ev] at hb q e sh sn
  walk_at "rds"
  refine ⟨b, _, ((0 : Nat) : Int), _, rfl, rfl, sq hb, atI_nat (by rfl), ?_⟩
  walk_at "rds"
  cases hlk : verbT.lookup (⟨v.toArray⟩ : Str) with
  | none =>
    refine ⟨_, none, rfl, rfl, hv hlk, ?_⟩
    walk_at "rds"
    exact mk_two fun H' d s2 _ hd => e _ _ (psW_none hlk) H' d (s1.trans s2) hd
  | some ks =>
  rw [psW_some hlk] at q e
  obtain ⟨a, hka, hkt⟩ := verbs_in T (lookup_mem hlk)
  obtain ⟨es, n0, u0, kd1, kd2, kd3, kd4⟩ := id hka
  refine ⟨_, some u0, rfl, rfl, kd3, ?_⟩
  walk_at "rds"
  refine ⟨b, _, ((0 : Nat) : Int), _, rfl, rfl, sq hb, atI_nat (by rfl), ?_⟩
  walk_at "rds"
  refine ⟨_, _, _, rfl, rfl, hka, ?_⟩
  walk_at "rds"
  refine ⟨b, _, rfl, .inl (sq hb), ?_⟩
  walk_at "rds"
  refine ⟨a, _, rfl, .inr (.inr hkt), ?_⟩
  walk_at "rds"
  rw [List.length_map, List.length_map]
  by_cases hlen : ¬ ws.length = ks.length
  · rw [if_neg hlen] at e
    refine ifT (by rw [decide_eq_false (fun z => hlen (by injection z with z; rw [List.length_cons] at z; omega))]; rfl) ?_
    walk_at "rds"
    exact mk_two fun H' d s2 _ hd => e _ _ rfl H' d (s1.trans s2) hd
  have hlen := Classical.byContradiction hlen
  rw [if_pos hlen] at q e
  refine ifF (by rw [decide_eq_true (congrArg V.int (by rw [List.length_cons]; omega))]; rfl) ?_
  walk_at "rds"
  refine ⟨b, _, rfl, sq hb, fun c hc => ?_⟩
  have hcv : cutV ((v :: ws).map wrd) (some (1 : Nat)) none = ws.map wrd := cutV_from
  have s2 := s1.trans (same_upd (o := .lst (cutV ((v :: ws).map wrd) (some (1 : Nat)) none)) hc)
  have hb2 := same_upd (o := .lst (cutV ((v :: ws).map wrd) (some (1 : Nat)) none)) hc _ _ hb
  have hc2 : upd H1 c (.lst (cutV ((v :: ws).map wrd) (some (1 : Nat)) none)) c = some (.lst (ws.map wrd)) := by rw [upd_same, hcv]
  generalize upd H1 c (.lst (cutV ((v :: ws).map wrd) (some (1 : Nat)) none)) = H2 at s2 hb2 hc2 ⊢
  walk_at "rds"
  refine ⟨a, c, _, _, rfl, .inr hkt, sq hc2, fun D hD => ?_⟩
  refine lc_it (walk_zipM (K := K) (a := a) (b := c) (xs := ks.map V.str) (ys := ws.map wrd) rfl) (Pv := fun i H' => ∃ ys, Same H2 H' ∧ H' D = some (.lst ys) ∧ argsV ks ws = ys ++ argsV (ks.drop i) (ws.drop i) ∧ argBad ks ws = argBad (ks.drop i) (ws.drop i) ∧ ys.length = i) ⟨[], same_upd hD, upd_same, rfl, rfl, rfl⟩ (fun _ _ _ h => by obtain ⟨_, h, _⟩ := h; exact ⟨.inr hkt, sq (h _ _ hc2)⟩) (fun j x H6 H7 hj hp2 hy => ?_) (fun H6 hp2 => ?_)
  · obtain ⟨ys, s6, hD6, av, ab, ly⟩ := hp2
    obtain ⟨t, v1, v2, e1, e2, e3, e4, e5⟩ := hy
    subst e1
    subst e3
    have e4 : (ks.map V.str)[j]? = some v1 := e4
    have e5 : (ws.map wrd)[j]? = some v2 := e5
    rw [List.length_map, List.length_map] at hj
    have j1 : j < ks.length := by omega
    have j2 : j < ws.length := by omega
    have g1 : ks[j]? = some ks[j] := List.getElem?_eq_getElem j1
    have g2 : ws[j]? = some ws[j] := List.getElem?_eq_getElem j2
    have x1 : v1 = .str ks[j] := by rw [List.getElem?_map, g1] at e4; exact (Option.some.inj e4).symm
    have x2 : v2 = wrd ws[j] := by rw [List.getElem?_map, g2] at e5; exact (Option.some.inj e5).symm
    subst x1; subst x2
    obtain ⟨st1, st2⟩ := argBad_step g1 g2
    have lw := sh ws[j] (List.mem_cons_of_mem _ (List.getElem_mem j2))
    have s7 : Same H6 (upd H6 t (.tup [.str ks[j], wrd ws[j]])) := same_upd e2
    have hD7 := s7 _ _ hD6
    refine ⟨t, _, rfl, .inl (.inl upd_same), rfl, ?_⟩
    generalize upd H6 t (.tup [.str ks[j], wrd ws[j]]) = H7 at s7 hD7
    refine ⟨_, _, rfl, _, _, rfl, rfl, rfl, tyes ?_⟩
    walk_at "rds"
    generalize ks[j] = k at st1 st2
    generalize ws[j] = l at st1 st2 lw
    refine ⟨k, l, i, rfl, by omega, fun hk H8 s8 => ?_, fun hk H8 d s8 hd => ?_⟩
    · refine ⟨ys, s8 _ _ hD7, by rw [ly]; exact sz1000' (by rw [List.length_cons] at sn; omega), ys ++ [argV k l], ?_, upd_same, ?_, ?_, by rw [List.length_append, ly]; rfl⟩
      · exact same_mut (s6.trans (s7.trans s8)) hD
      · rw [av, st2, List.append_assoc]; rfl
      · rw [ab, st1, if_pos hk]
    · rw [ab, st1, if_neg (by rw [hk]; decide)] at e
      exact e _ _ rfl _ _ (s2.trans (s6.trans (s7.trans s8))) hd
  obtain ⟨ys, s6, hD6, av, ab, ly⟩ := hp2
  obtain ⟨n1, n2⟩ := argBad_end (ks := ks) (ws := ws) (i := min (ks.map V.str).length (ws.map wrd).length) (by rw [List.length_map, List.length_map]; omega)
  rw [n2, List.append_nil] at av
  rw [ab, n1] at q
  have q := q _ rfl
  rw [av] at q
  have hb6 := s6 _ _ hb2
  have s16 := s2.trans s6
  walk_at "rds"
  refine ⟨b, _, ((0 : Nat) : Int), _, rfl, rfl, sq hb6, atI_nat (by rfl), ?_⟩
  walk_at "rds"
  intro t1 ht1
  have s17 := s16.trans (same_upd (o := .lst [wrd v]) ht1)
  have hD7 := same_upd (o := .lst [wrd v]) ht1 _ _ hD6
  have ht7 : upd H6 t1 (.lst [wrd v]) t1 = some (.lst [wrd v]) := upd_same
  generalize upd H6 t1 (.lst [wrd v]) = H7 at s17 hD7 ht7 ⊢
  walk_at "rds"
  have lys : ys.length ≤ 1001 := by
    rw [ly, List.length_map, List.length_map]
    rw [List.length_cons] at sn
    omega
  have sl := sizeLine_eq
  refine ⟨t1, D, _, _, rfl, rfl, ht7, hD7, by show 1 + ys.length ≤ sizeLine; omega, fun t2 ht2 => ?_⟩
  have s18 := s17.trans (same_upd (o := .lst ([wrd v] ++ ys)) ht2)
  have ht8 : upd H7 t2 (.lst ([wrd v] ++ ys)) t2 = some (.lst ([wrd v] ++ ys)) := upd_same
  generalize upd H7 t2 (.lst ([wrd v] ++ ys)) = H8 at s18 ht8 ⊢
  refine ⟨t2, _, rfl, .inl ⟨sq ht8, fun t3 ht3 => ?_⟩⟩
  exact q _ _ (s18.trans (same_upd ht3)) (same_none s18 ht3) upd_same
end

def vD : V → PyData
  | .int n => .int n
  | .str z => .str z
  | _ => .none
def rowT (xs : List V) : PyData := .tuple (xs.map vD)
def ScV (v : V) : Prop := (∃ z : Str, v = .str z ∧ z.length ≤ 1000) ∨ ∃ n, v = .int n
def pcL : Nat → List (List Nat) → (Str × Nat) ⊕ List (List V)
  | _, [] => .inr []
  | k, p :: ps => match psR k p with
    | .inl e => .inl e
    | .inr xs => match pcL (k + 1) ps with
      | .inl e => .inl e
      | .inr r => .inr (xs :: r)
def pcAll (cs : List Nat) : (Str × Nat) ⊕ List (List V) := if 240 < cs.length then .inl (Str.ofString "long", 0) else if cs.all prC = true then pcL 0 (spA 59 cs) else .inl (Str.ofString "character", 0)
theorem argsV_sc : ∀ {ks : List Str} {ws : List (List Nat)}, (∀ l ∈ ws, l.length ≤ 1000) → ∀ x ∈ argsV ks ws, ScV x
  | [], _, _, x, h => nomatch h
  | _ :: _, [], _, x, h => nomatch h
  | k :: ks, l :: ls, hl, x, h => by
    rcases List.mem_cons.mp h with rfl | h
    · unfold argV
      split
      · exact .inr ⟨_, rfl⟩
      · exact .inl ⟨_, rfl, by rw [wl]; exact hl l List.mem_cons_self⟩
    · exact argsV_sc (fun l m => hl l (List.mem_cons_of_mem _ m)) x h
theorem psR_sc {i : Nat} {p : List Nat} {xs : List V} (hp : p.length ≤ 1000) (h : psR i p = .inr xs) : ∀ x ∈ xs, ScV x := by
  unfold psR at h
  split at h
  · cases h
  split at h
  · cases h
  have sh := spA_short 32 p
  obtain ⟨v, ws, e⟩ := spA_ne 32 p
  rw [e] at h sh
  cases hlk : verbT.lookup (⟨v.toArray⟩ : Str) with
  | none => rw [psW_none hlk] at h; cases h
  | some ks =>
    rw [psW_some hlk] at h
    split at h
    · cases hb : argBad ks ws with
      | some k => rw [hb] at h; cases h
      | none =>
        rw [hb] at h
        injection h with h
        subst h
        intro x hx
        rcases List.mem_cons.mp hx with rfl | hx
        · exact .inl ⟨_, rfl, by rw [wl]; have := sh v List.mem_cons_self; omega⟩
        · exact argsV_sc (fun l m => by have := sh l (List.mem_cons_of_mem _ m); omega) x hx
    · cases h
theorem sc_dt {K : PySem.W.Frag} {H : Hp} {A : Option Addr} : ∀ {xs : List V}, (∀ x ∈ xs, ScV x) → DtAll K H A xs (xs.map vD)
  | [], _ => .nil
  | x :: r, h => by
    refine .cons ?_ (sc_dt fun y m => h y (List.mem_cons_of_mem _ m))
    rcases h x List.mem_cons_self with ⟨z, rfl, hz⟩ | ⟨n, rfl⟩
    · exact .str z (by omega)
    · exact .int n
section
variable {P : Program} {w : World} {K : PySem.W.Frag} {mg : Str → Option Value} {base : Heap}
theorem c_parse_command {C_BadCommand : Addr} {C_VERBS : Addr} (T : Txt K mg w C_BadCommand C_VERBS) : CalX P w K mg base 7 "parse_command" (fun vs H Q E => ∃ (z : Str), vs = [.str z] ∧ z.length ≤ 10000 ∧
    (∀ p ∈ spA 59 z.cps.toList, ∀ v ws, spA 32 p = v :: ws → verbT.lookup ⟨v.toArray⟩ = none → PySem.W.nsIn K C_VERBS ⟨v.toArray⟩ = some none) ∧
    (∀ rs, pcAll z.cps.toList = .inr rs → ∀ H' b, Same H H' → H b = none → Dt K H' none (.ref b) (.list (rs.map rowT)) → Q (.ref b) H') ∧ (∀ r k, pcAll z.cps.toList = .inl (r, k) → ∀ H' d, Same H H' → BadAt H' d r k → E (.ref C_BadCommand) (some d) H')) := by
  have c_parts_of := c_parts_of (P := P) (w := w) (K := K) (base := base) T
  have c_parse_statement := c_parse_statement (P := P) (w := w) (K := K) (base := base) T
  refine calX T.d_parse_command sc_parse_command (fun vs H Q E h => ?_) (fun f cdv A' outer s H vs Q E hr h => ?_)
  · obtain ⟨z, rfl, _⟩ := h; rfl
  obtain ⟨z, rfl, hz, hv, q, e⟩ := h
  refine ⟨_, (pss_one (ps_ret (pe_lcX (own := [("index", 1), ("part", 2)]) (g := _) (by rfl) sc_parse_command.nd rfl rfl (takes_of rfl rfl rfl rfl) (pi_enum (by rfl) T.z_enumerate (pa_cons (pe_cX c_parts_of hr (by decide) (by rfl) (fun σ => passAt (takes_of rfl rfl rfl rfl) σ) (pa_cons (pv 0) pa_nil)) pa_nil)) (blkOk_by (own := [("index", 1), ("part", 2)]) (N := ["text", "index", "part"]) (sc := defScope s_parse_command) (by decide +kernel)) (fun _ _ _ _ _ _ => kgtup (K := K) (n := 2) (by rfl) (pgs_cons (pg_name (i := 1) sc_parse_command.nd rfl (Or.inl rfl)) (pgs_cons (pg_name (i := 2) sc_parse_command.nd rfl (Or.inl rfl)) pgs_nil))) (fun _ _ _ _ _ _ => pts_nil) (fun _ _ _ _ _ _ hx => (pe_cX c_parse_statement hr (by decide) (by rfl) (fun σ => hx σ) (pa_cons (pv 2) (pa_cons (pv 1) pa_nil))))))), ?_⟩
  walk_at "rds"
  have lz := len_tl z
  unfold pcAll at q e
  refine ⟨by omega, fun h240 hp H1 b s1 hb => ?_, fun h H' d s1 hd => e _ _ (by rw [if_pos (by omega)]) H' d s1 hd, fun h hp H' d s1 hd => e _ _ (by rw [if_neg (by omega), if_neg (by show ¬ isPr z = true; rw [hp]; simp)]) H' d s1 hd⟩
  rw [if_neg (by omega), if_pos (show z.cps.toList.all prC = true from hp)] at q e
  have sh := spA_short 59 z.cps.toList
  have sn := spA_len 59 z.cps.toList
  generalize spA 59 z.cps.toList = ps at hb q e sh sn hv
  walk_at "rds"
  refine ⟨b, _, rfl, sq hb, fun D hD => ?_⟩
  refine lc_it (walk_enum (K := K) (a := b) (xs := ps.map wrd)) (Pv := fun i H' => ∃ xs rows, Same H1 H' ∧ H' D = some (.lst xs) ∧ DtAll K H' (some D) xs (rows.map rowT) ∧ rows.length = i ∧
      pcL 0 ps = (match pcL i (ps.drop i) with | .inl e => .inl e | .inr r => .inr (rows ++ r))) ⟨[], [], same_upd hD, upd_same, .nil, rfl, by rw [List.drop_zero]; cases pcL 0 ps <;> rfl⟩ (fun _ _ _ h => by obtain ⟨_, _, h, _⟩ := h; exact sq (h _ _ hb)) (fun i x H6 H7 hi hp2 hy => ?_) (fun H6 hp2 => ?_)
  · obtain ⟨xs, rows, s6, hD6, dt, lr, pre⟩ := hp2
    obtain ⟨t, v1, v2, e1, e2, e3, e4, e5⟩ := hy
    subst e1
    subst e3
    have e5 : (ps.map wrd)[i]? = some v2 := e5
    rw [List.getElem?_map] at e5
    have hi' : i < ps.length := by rw [List.length_map] at hi; exact hi
    have gp : ps[i]? = some ps[i] := List.getElem?_eq_getElem hi'
    have ex : v2 = wrd ps[i] := by rw [gp] at e5; exact (Option.some.inj e5).symm
    have ei : v1 = .int (i : Nat) := (Option.some.inj e4).symm
    subst ex
    subst ei
    have hT : H6 t = none := e2
    have s7 : Same H6 (upd H6 t (.tup [.int (i : Nat), wrd ps[i]])) := same_upd hT
    have hD7 := s7 _ _ hD6
    have lp : ps[i].length ≤ 1000 := by have := sh ps[i] (List.getElem_mem hi'); omega
    have hvi := hv ps[i] (List.getElem_mem hi')
    rw [List.drop_eq_getElem_cons hi', pcL] at pre
    refine ⟨t, _, rfl, .inl (.inl upd_same), rfl, ?_⟩
    generalize upd H6 t (.tup [.int (i : Nat), wrd ps[i]]) = H7 at s7 hD7
    refine ⟨_, _, rfl, _, _, rfl, rfl, rfl, tyes ?_⟩
    walk_at "rds"
    generalize ps[i] = p at lp hvi pre
    refine ⟨p, i, rfl, lp, hvi, fun ys hps H8 r s8 nr hr => ?_, fun r k hps H8 d s8 hd => ?_⟩
    · rw [hps] at pre
      have hD8 := s8 _ _ hD7
      refine ⟨xs, hD8, by have := dt.length; rw [this, List.length_map, lr]; exact sz1000' (by omega), xs ++ [.ref r], rows ++ [ys], ?_, upd_same, ?_, by rw [List.length_append, lr]; rfl, ?_⟩
      · exact same_mut (s6.trans (s7.trans s8)) hD
      · rw [List.map_append]
        refine DtAll.chg hD8 (fun b o n e => by rw [upd_ne n]; exact e) _ _ (((dt.on s7).on s8).snoc2 (.tup (.inl hr) (sc_dt (psR_sc lp hps))))
      · rw [pre]
        cases pcL (i + 1) (ps.drop (i + 1)) with
        | inl e => rfl
        | inr r => show Sum.inr (rows ++ ys :: r) = Sum.inr (rows ++ [ys] ++ r); rw [List.append_assoc]; rfl
    · rw [hps] at pre
      exact e _ _ pre _ _ (s1.trans (s6.trans (s7.trans s8))) hd
  · obtain ⟨xs, rows, s6, hD6, dt, lr, pre⟩ := hp2
    rw [List.length_map, List.drop_length, pcL] at pre
    refine q _ pre _ _ (s1.trans s6) (same_none s1 hD) ?_
    rw [List.append_nil]
    exact .lst trivial hD6 (DtAll.frees _ _ dt)
end

/-! ### statements as texts -/
def sTx : V → List Nat
  | .str z => z.cps.toList
  | .int n => (Str.ofString (toString n)).cps.toList
  | _ => []
theorem sTx_nat (n : Nat) : sTx (.int n) = TL.numL n := TL.tl_num n
theorem wrd_str (z : Str) : wrd z.cps.toList = .str z := congrArg V.str (str_eq_l.mpr rfl)
def ArgV (v : V) : Prop := (∃ z : Str, v = .str z ∧ z.length ≤ 1000) ∨ ∃ n : Nat, v = .int n ∧ n < 10 ^ 12
def FitK (k : Str) (x : V) : Prop := if k = "amount" then ∃ n : Nat, x = .int n ∧ n < 10 ^ 12 else ∃ z : Str, x = .str z ∧ kindOk k z.cps.toList = true
def Good (xs : List V) : Prop := ∃ (v : Str) (ks : List Str) (args : List V), xs = .str v :: args ∧ verbT.lookup v = some ks ∧ args.length = ks.length ∧ ∀ (i : Nat) (k : Str) (x : V), ks[i]? = some k → args[i]? = some x → FitK k x
theorem spA_jn {c : Nat} : ∀ {ls : List (List Nat)}, ls ≠ [] → (∀ l ∈ ls, c ∉ l) → spA c (jnL c ls) = ls
  | [], h, _ => absurd rfl h
  | [x], _, h => by rw [jnL]; exact spA_free (h x (by simp))
  | x :: y :: r, _, h => by
    rw [jnL, spA_word _ (h x (by simp)), spA_jn (by simp) fun l m => h l (List.mem_cons_of_mem _ m)]
theorem jnL_ne {c : Nat} {x : List Nat} {ls : List (List Nat)} (h : x ≠ []) : jnL c (x :: ls) ≠ [] := by
  cases ls with
  | nil => exact h
  | cons y r => rw [jnL]; simp
theorem jnL_mem {c : Nat} : ∀ {ls : List (List Nat)} {x : Nat}, x ∈ jnL c ls → x = c ∨ ∃ l ∈ ls, x ∈ l
  | [], _, h => nomatch h
  | [y], x, h => .inr ⟨y, by simp, h⟩
  | y :: z :: r, x, h => by
    rw [jnL] at h
    rcases List.mem_append.mp h with h | h
    · exact .inr ⟨y, by simp, h⟩
    · rcases List.mem_cons.mp h with h | h
      · exact .inl h
      · rcases jnL_mem h with h | ⟨l, m, h⟩
        · exact .inl h
        · exact .inr ⟨l, List.mem_cons_of_mem _ m, h⟩
/-- a word of a statement -/
def Wd (l : List Nat) : Prop := l ≠ [] ∧ 32 ∉ l ∧ 59 ∉ l ∧ ∀ c ∈ l, prC c = true
theorem wd_of {l : List Nat} {p : Nat → Bool} (h0 : 1 ≤ l.length) (h : l.all p = true) (hp : ∀ c, p c = true → c ≠ 32 ∧ c ≠ 59 ∧ prC c = true) : Wd l := by
  have k := fun c m => hp c (List.all_eq_true.mp h c m)
  exact ⟨fun z => by rw [z] at h0; simp at h0, fun m => (k _ m).1 rfl, fun m => (k _ m).2.1 rfl, fun c m => (k c m).2.2⟩
theorem wd_num (n : Nat) : Wd (TL.numL n) := by
  have d := TL.numL_digits n
  refine ⟨TL.numL_ne n, fun m => by have := d _ m; omega, fun m => by have := d _ m; omega, fun c m => ?_⟩
  have := d c m
  unfold prC
  rw [decide_eq_true (by omega), decide_eq_true (by omega), decide_eq_true (by omega)]; rfl
theorem small_mem {ch : List Nat} (h : ∀ c ∈ ch, c ≠ 32 ∧ c ≠ 59 ∧ prC c = true) : ∀ c, decide (c ∈ ch) = true → c ≠ 32 ∧ c ≠ 59 ∧ prC c = true := fun c e => h c (of_decide_eq_true e)
theorem wd_kind {k : Str} {l : List Nat} (h : kindOk k l = true) : Wd l ∧ l.length ≤ 40 := by
  unfold kindOk at h
  split at h
  · unfold nmL at h
    rw [Bool.and_eq_true, Bool.and_eq_true] at h
    have h2 := of_decide_eq_true h.1.2
    exact ⟨wd_of (of_decide_eq_true h.1.1) h.2 (small_mem (by decide +kernel)), by omega⟩
  split at h
  · unfold amL at h
    rw [Bool.and_eq_true] at h
    obtain ⟨a, b, _⟩ := dcL_iff.mp h.2
    have h2 := of_decide_eq_true h.1
    have e := dcL_num h.2
    exact ⟨by rw [← e]; exact wd_num _, by omega⟩
  split at h
  · unfold kyL at h
    rw [Bool.and_eq_true, Bool.and_eq_true] at h
    have h2 := of_decide_eq_true h.1.2
    exact ⟨wd_of (of_decide_eq_true h.1.1) h.2 (small_mem (by decide +kernel)), by omega⟩
  · unfold vlL at h
    rw [Bool.and_eq_true, Bool.and_eq_true, Bool.and_eq_true, Bool.and_eq_true] at h
    obtain ⟨⟨⟨h1, h2⟩, h3⟩, h4, h5⟩ := h
    have h5 := of_decide_eq_true h5
    exact ⟨⟨fun z => (by rw [z] at h1; cases h1), fun m => (by rw [decide_eq_true m] at h2; cases h2), fun m => (by rw [decide_eq_true m] at h3; cases h3), fun c m => List.all_eq_true.mp h4 c m⟩, by omega⟩
theorem wd_fit {k : Str} {x : V} (h : FitK k x) : Wd (sTx x) ∧ ArgV x := by
  unfold FitK at h
  split at h
  · obtain ⟨n, rfl, hn⟩ := h
    exact ⟨by rw [sTx_nat]; exact wd_num n, .inr ⟨n, rfl, hn⟩⟩
  · obtain ⟨z, rfl, hz⟩ := h
    obtain ⟨a, b⟩ := wd_kind hz
    rw [len_tl] at b
    exact ⟨a, .inl ⟨z, rfl, by omega⟩⟩
theorem wd_verb {v : Str} {ks : List Str} (h : verbT.lookup v = some ks) : Wd v.cps.toList ∧ v.length ≤ 1000 := by
  have m := lookup_mem h
  have key : ∀ x ∈ verbT, (x.1.cps.toList ≠ [] ∧ 32 ∉ x.1.cps.toList ∧ 59 ∉ x.1.cps.toList ∧ x.1.cps.toList.all prC = true) ∧ x.1.length ≤ 1000 := by decide +kernel
  obtain ⟨⟨a, b, c, d⟩, e⟩ := key _ m
  exact ⟨⟨a, b, c, fun y my => List.all_eq_true.mp d y my⟩, e⟩
theorem good_wd {xs : List V} (h : Good xs) : ∀ x ∈ xs, Wd (sTx x) ∧ ArgV x := by
  obtain ⟨v, ks, args, rfl, hl, len, fit⟩ := h
  intro x m
  rcases List.mem_cons.mp m with rfl | m
  · obtain ⟨a, b⟩ := wd_verb hl
    exact ⟨a, .inl ⟨v, rfl, b⟩⟩
  · obtain ⟨i, hi⟩ := List.getElem?_of_mem m
    have li := (List.getElem?_eq_some_iff.mp hi).1
    exact wd_fit (fit i ks[i] x (List.getElem?_eq_getElem (by omega)) hi)
theorem args_back : ∀ {ks : List Str} {args : List V}, args.length = ks.length → (∀ (i : Nat) (k : Str) (x : V), ks[i]? = some k → args[i]? = some x → FitK k x) → argBad ks (args.map sTx) = none ∧ argsV ks (args.map sTx) = args
  | [], [], _, _ => ⟨rfl, rfl⟩
  | [], _ :: _, h, _ => by simp at h
  | _ :: _, [], h, _ => by simp at h
  | k :: ks, x :: args, h, fit => by
    obtain ⟨a, b⟩ := args_back (ks := ks) (args := args) (by simpa using h) fun i k x e1 e2 => fit (i + 1) k x (by simpa using e1) (by simpa using e2)
    have f := fit 0 k x rfl rfl
    have hk : kindOk k (sTx x) = true ∧ argV k (sTx x) = x := by
      unfold FitK at f
      unfold argV
      split at f
      · rename_i ek
        obtain ⟨n, rfl, hn⟩ := f
        rw [if_pos ek, sTx_nat]
        refine ⟨?_, by unfold dvL; rw [TL.numL_val]⟩
        unfold kindOk
        rw [if_neg (by rw [ek]; decide +kernel), if_pos ek]
        unfold amL
        have := TL.numL_len (n := n) (k := 12) (by decide) hn
        rw [num_dcL, decide_eq_true (by omega)]; rfl
      · rename_i ek
        obtain ⟨z, rfl, hz⟩ := f
        rw [if_neg ek]
        exact ⟨hz, congrArg V.str (str_eq_l.mpr rfl)⟩
    refine ⟨?_, ?_⟩
    · show (if kindOk k (sTx x) = true then argBad ks (args.map sTx) else some k) = none
      rw [if_pos hk.1, a]
    · show argV k (sTx x) :: argsV ks (args.map sTx) = _
      rw [hk.2, b]
def stx (xs : List V) : List Nat := jnL 32 (xs.map sTx)
theorem stx_back {xs : List V} {i : Nat} (h : Good xs) : psR i (stx xs) = .inr xs ∧ spA 32 (stx xs) = xs.map sTx := by
  have w := good_wd h
  have hs : spA 32 (stx xs) = xs.map sTx := by
    refine spA_jn ?_ fun l m => ?_
    · obtain ⟨v, _, args, rfl, _⟩ := h; simp
    · obtain ⟨x, mx, rfl⟩ := List.mem_map.mp m
      exact (w x mx).1.2.1
  refine ⟨?_, hs⟩
  unfold psR
  have h1 : stx xs ≠ [] := by
    obtain ⟨v, _, args, rfl, _⟩ := h
    exact jnL_ne (w _ (by simp)).1.1
  rw [if_neg h1, hs, if_neg (fun m => by obtain ⟨x, mx, ex⟩ := List.mem_map.mp m; exact (w x mx).1.1 ex)]
  obtain ⟨v, ks, args, rfl, hl, len, fit⟩ := h
  obtain ⟨a, b⟩ := args_back len fit
  have ev : (⟨(sTx (.str v)).toArray⟩ : Str) = v := str_eq_l.mpr rfl
  rw [List.map_cons, psW_some (by rw [ev]; exact hl), List.length_map, if_pos len, a, b, ev]
def ctx (xss : List (List V)) : List Nat := jnL 59 (xss.map stx)
theorem pcL_good : ∀ {xss : List (List V)} {k : Nat}, (∀ xs ∈ xss, Good xs) → pcL k (xss.map stx) = .inr xss
  | [], _, _ => by rw [List.map_nil, pcL]
  | xs :: r, k, h => by
    rw [List.map_cons, pcL, (stx_back (h xs (by simp))).1, pcL_good fun y m => h y (List.mem_cons_of_mem _ m)]
theorem stx_free {xs : List V} (h : Good xs) : 59 ∉ stx xs ∧ ∀ c ∈ stx xs, prC c = true := by
  have w := good_wd h
  constructor
  · intro m
    rcases jnL_mem m with e | ⟨l, ml, e⟩
    · cases e
    · obtain ⟨x, mx, rfl⟩ := List.mem_map.mp ml
      exact (w x mx).1.2.2.1 e
  · intro c m
    rcases jnL_mem m with e | ⟨l, ml, e⟩
    · rw [e]; decide
    · obtain ⟨x, mx, rfl⟩ := List.mem_map.mp ml
      exact (w x mx).1.2.2.2 c e
theorem ctx_back {xss : List (List V)} (hn : xss ≠ []) (h : ∀ xs ∈ xss, Good xs) (hl : (ctx xss).length ≤ 240) : pcAll (ctx xss) = .inr xss ∧ spA 59 (ctx xss) = xss.map stx := by
  have hs : spA 59 (ctx xss) = xss.map stx := spA_jn (by simpa using hn) fun l m => by
    obtain ⟨x, mx, rfl⟩ := List.mem_map.mp m
    exact (stx_free (h x mx)).1
  refine ⟨?_, hs⟩
  unfold pcAll
  rw [if_neg (by omega), if_pos, hs, pcL_good h]
  refine List.all_eq_true.mpr fun c m => ?_
  rcases jnL_mem m with e | ⟨l, ml, e⟩
  · rw [e]; decide
  · obtain ⟨x, mx, rfl⟩ := List.mem_map.mp ml
    exact (stx_free (h x mx)).2 c e
theorem ctx_verbs {xss : List (List V)} (hn : xss ≠ []) (h : ∀ xs ∈ xss, Good xs) (hs : spA 59 (ctx xss) = xss.map stx) : ∀ p ∈ spA 59 (ctx xss), ∀ v ws, spA 32 p = v :: ws → ∃ ks, verbT.lookup (⟨v.toArray⟩ : Str) = some ks := by
  intro p m v ws e
  rw [hs] at m
  obtain ⟨xs, mx, rfl⟩ := List.mem_map.mp m
  rw [(stx_back (i := 0) (h xs mx)).2] at e
  obtain ⟨v', ks, args, rfl, hl, _⟩ := h xs mx
  rw [List.map_cons] at e
  injection e with e _
  refine ⟨ks, ?_⟩
  rw [← e, show (⟨(sTx (.str v')).toArray⟩ : Str) = v' from str_eq_l.mpr rfl]
  exact hl

def rJn (K : PySem.W.Frag) : V → List V → Hp → VK → Prop := fun x xs H Q => ∃ a p, ∃ ys : List Str, x = .str a ∧ xs = [.ref p] ∧ (SqL K H p (ys.map V.str) ∨ SqT K H p (ys.map V.str)) ∧ (ys.map (·.length)).sum + ys.length * a.length ≤ 16777216 ∧ Q (.str (Txt.join a ys)) H
theorem kjoin {X : Cx} {K : PySem.W.Frag} {o e : Expr} {to te : TE} {apos pos : Pos} (hK : X.K = K) (ho : PE X o to) (he : PE X e te) (h1 : starEach [e] X.env = [(false, eval e X.env)] := by rfl) (h2 : attributeBase o "join" X.env (eval o X.env) = eval o X.env := by rfl) (h3 : (apos.endLine == pos.line) = true := by rfl) :
    PE X (.Call (.Attribute o "join" apos) [e] [] pos) (tM1 (rJn K) to te) := by
  subst hK; exact pe_join ho he h1 h2 h3
def rStrM : List V → Hp → VK → Prop := fun xs H Q => (∃ a, xs = [.str a] ∧ Q (.str a) H) ∨ ∃ i : Int, xs = [.int i] ∧ i.natAbs.log2 < 1920 ∧ Q (.str (toString i)) H
/-- str(x) of a text or a number -/
theorem call_strM {X : Cx} : CallR X (.type "str") rStrM :=
  fun pins s σ H xs us Q I r h => h.elim (SkE.call_str_str pins s σ H xs us Q I r) (call_str_int pins s σ H xs us Q I r)
theorem wipe_set {σ : L2.St} {j : Nat} {x : V} : wipe ((wipe σ [j]).set j (some x)) [j] = wipe σ [j] := by
  show (((σ.set j none).set j (some x)).set j none) = σ.set j none
  rw [List.set_set, List.set_set]
theorem argV_len {x : V} (h : ArgV x) : (sTx x).length ≤ 1000 := by
  rcases h with ⟨z, rfl, hz⟩ | ⟨n, rfl, hn⟩
  · show z.cps.toList.length ≤ 1000
    rw [len_tl]; exact hz
  · rw [sTx_nat]
    have := TL.numL_len (n := n) (k := 12) (by decide) hn
    omega
theorem sum_le {m : Nat} : ∀ (ys : List Str), (∀ y ∈ ys, y.length ≤ m) → (ys.map (·.length)).sum ≤ m * ys.length
  | [], _ => Nat.zero_le _
  | y :: r, h => by
    have a := sum_le r fun z mz => h z (List.mem_cons_of_mem _ mz)
    have b := h y List.mem_cons_self
    rw [List.map_cons, List.sum_cons, List.length_cons, Nat.mul_succ]
    omega
theorem jnL_le {c m : Nat} : ∀ {ls : List (List Nat)}, (∀ l ∈ ls, l.length ≤ m) → (jnL c ls).length ≤ (m + 1) * ls.length
  | [], _ => Nat.zero_le _
  | [x], h => by
    have := h x (by simp)
    show x.length ≤ (m + 1) * 1
    omega
  | x :: y :: r, h => by
    have a := jnL_le (c := c) (ls := y :: r) fun l ml => h l (List.mem_cons_of_mem _ ml)
    have b := h x (by simp)
    rw [jnL, List.length_append, List.length_cons, List.length_cons (a := x), Nat.mul_succ]
    omega

theorem atI_lt {α : Type} {xs : List α} {i : Int} (h0 : 0 ≤ i) (h1 : i < xs.length) : ∃ v, v ∈ xs ∧ atI xs i = some v := by
  obtain ⟨j, rfl⟩ := Int.eq_ofNat_of_zero_le h0
  have hj : j < xs.length := Int.ofNat_lt.mp h1
  exact ⟨xs[j], List.getElem_mem hj, atI_nat (List.getElem?_eq_getElem hj)⟩

def spCellI (K : PySem.W.Frag) : Sp := fun vs H Q _ => ∃ (a : Addr) (ns : List Int) (k : Nat), vs = [.ref a, .int k] ∧ SqL K H a (ns.map V.int) ∧ Q (.int (ns.getD k 0)) H
def spWord : Sp := fun vs H Q _ => ∃ (n : Nat) (ch : Str) (seed step : Int), vs = [.int n, .str ch, .int seed, .int step] ∧ n ≤ 100 ∧ 0 < ch.length ∧ ch.length ≤ 1000 ∧ ∀ z : Str, z.length = n → (∀ c ∈ z.cps.toList, c ∈ ch.cps.toList) → Q (.str z) H
section
variable {P : Program} {w : World} {K : PySem.W.Frag} {mg : Str → Option Value} {base : Heap}
theorem c__law_cell {C_BadCommand : Addr} {C_VERBS : Addr} (T : Txt K mg w C_BadCommand C_VERBS) : Cal P w K mg base 1 "_law_cell" (spCellI K) [] := by
  refine cal T.d__law_cell sc__law_cell (fun vs H Q E h => ?_) (fun f cdv A outer s H vs Q E hr h => ?_)
  · obtain ⟨a, ns, k, rfl, _⟩ := h; rfl
  obtain ⟨a, ns, k, rfl, hS, q⟩ := h
  refine ⟨_, (pss_cons (ps_if (pt_cmpR op_lt (pv 1) (pe_callB (klen (K := K)) (by rfl) T.z_len (by decide +kernel) (pa_cons (pv 0) pa_nil)) (nomark _)) (pss_one (ps_ret (pe_callTy call_int1 (by rfl) T.z_int (by decide +kernel) (pa_cons (pe_ix (kixl (K := K)) (pv 0) (pv 1) (fun _ _ => rfl)) pa_nil)))) pss_nil)
      (pss_one (ps_ret pe_int))), ?_⟩
  refine ⟨.int k, rfl, .ref a, rfl, a, _, rfl, .inl hS, _, _, rfl, rfl, _, rfl, ite2 (fun e => ?_) (fun e => ?_)⟩
  · have e := of_decide_eq_true e
    rw [List.length_map] at e
    have e1 : k < ns.length := by omega
    have g : (ns.map V.int)[k]? = some (.int (ns.getD k 0)) := by
      rw [List.getElem?_map, List.getD_eq_getElem?_getD, List.getElem?_eq_getElem e1]; rfl
    refine ⟨.ref a, rfl, .int k, rfl, a, _, _, _, rfl, rfl, hS, atI_nat g, ?_⟩
    walk_at "rds"
    exact q
  · have e2 : ¬ ((k : Int) < ((ns.map V.int).length : Int)) := fun z => e (decide_eq_true z)
    rw [List.length_map] at e2
    have e1 : ns.getD k 0 = 0 := by
      rw [List.getD_eq_getElem?_getD, List.getElem?_eq_none (by omega)]; rfl
    rw [e1] at q
    exact q
theorem c__law_word {C_BadCommand : Addr} {C_VERBS : Addr} (T : Txt K mg w C_BadCommand C_VERBS) : Cal P w K mg base 1 "_law_word" spWord [] := by
  refine cal T.d__law_word sc__law_word (fun vs H Q E h => ?_) (fun f cdv A' outer s H vs Q E hr h => ?_)
  · obtain ⟨n, ch, seed, step, rfl, _⟩ := h; rfl
  obtain ⟨n, ch, seed, step, rfl, hn, h0, h1, q⟩ := h
  refine ⟨_, (pss_cons (ps_set (i := 4) sc__law_word.nd rfl (Or.inl rfl) pe_str)
      (pss_cons (ps_set (i := 5) sc__law_word.nd rfl (Or.inl rfl) (pe_callTy call_int1 (by rfl) T.z_int (by decide +kernel) (pa_cons (pv 2) pa_nil)))
      (pss_cons (ps_for PassesOwn.never rfl (pi_range1 (by rfl) T.z_range (pa_cons (pv 0) pa_nil)) (pg_name (i := 6) sc__law_word.nd rfl (Or.inl rfl)) (pss_cons (ps_set (i := 4) sc__law_word.nd rfl (Or.inl rfl) (pe_op op_add_str (pv 4) (pe_ix ix_str (pv 1) (pe_op op_mod (pe_callTy call_int1 (by rfl) T.z_int (by decide +kernel) (pa_cons (pe_op op_add (pv 5) (pe_op op_mul (pv 6) (pv 3))) pa_nil)) (pe_callB call_len_str (by rfl) T.z_len (by decide +kernel) (pa_cons (pv 1) pa_nil))) (fun _ _ => rfl))))
      (pss_one (ps_set (i := 5) sc__law_word.nd rfl (Or.inl rfl) (pe_op op_fdiv (pv 5) (pe_callB call_len_str (by rfl) T.z_len (by decide +kernel) (pa_cons (pv 1) pa_nil)))))))
      (pss_one (ps_ret (pv 4)))))), ?_⟩
  walk_at "rds"
  refine for_it walk_range (Pv := fun i σ H' => H' = H ∧ ∃ (z : Str) (r : Int) (y : Option V), σ = [some (.int n), some (.str ch), some (.int seed), some (.int step), some (.str z), some (.int r), y] ∧ z.length = i ∧ ∀ c ∈ z.cps.toList, c ∈ ch.cps.toList) ⟨rfl, _, _, _, rfl, by decide, (fun c m => by cases m)⟩ (fun _ _ _ _ _ => trivial) (fun i x σ H1 H2 hi hp hy => ?_) (fun σ H1 hp => ?_)
  · obtain ⟨rfl, z, r, y, rfl, hz, hc⟩ := hp
    obtain ⟨rfl, rfl⟩ := hy
    have hi' : i < n := by omega
    walk_at "rds"
    obtain ⟨c, hcm, hat⟩ := atI_lt (xs := ch.cps.toList) (i := (r + (0 + (i : Int)) * step) % (ch.length : Int)) (Int.emod_nonneg _ (by omega)) (by rw [len_tl]; exact Int.emod_lt_of_pos _ (by omega))
    refine ⟨ch, _, c, rfl, rfl, sz1000 (by omega), hat, ?_⟩
    refine ⟨z, _, rfl, rfl, ?_, ?_⟩
    · exact sz1000 (by rw [hz]; show i + 1 ≤ 100000; omega)
    walk_at "rds"
    refine ⟨rfl, z ++ ⟨#[c]⟩, _, _, rfl, ?_, ?_⟩
    · rw [Str.length_append, hz]; rfl
    · intro d hd
      rw [app_tl] at hd
      rcases List.mem_append.mp hd with hd | hd
      · exact hc d hd
      · rw [List.mem_singleton.mp hd]; exact hcm
  · obtain ⟨rfl, z, r, y, rfl, hz, hc⟩ := hp
    walk_at "rds"
    exact q z (by omega) hc
end

theorem inL_cong {a b : List Nat} (h : ∀ c, decide (c ∈ a) = decide (c ∈ b)) (l : List Nat) : inL l a = inL l b := by
  unfold inL
  congr 1
  funext c
  exact h c
theorem mem_small {a : List Nat} {p : Nat → Bool} (h1 : ∀ c : Fin 128, decide (c.val ∈ a) = p c.val) (h2 : ∀ c ∈ a, c < 128) (h3 : ∀ c, p c = true → c < 128) (c : Nat) : decide (c ∈ a) = p c := by
  by_cases hc : c < 128
  · exact h1 ⟨c, hc⟩
  · rw [decide_eq_false (fun m => hc (h2 c m))]
    cases e : p c with
    | false => rfl
    | true => exact absurd (h3 c e) hc
theorem inL_all {a : List Nat} {p : Nat → Bool} (h : ∀ c, decide (c ∈ a) = p c) (l : List Nat) : inL l a = l.all p := by
  unfold inL
  congr 1
  funext c
  exact h c
def spAllIn : Sp := fun vs H Q _ => ∃ (z ch : Str), vs = [.str z, .str ch] ∧ Q (.bl (inL z.cps.toList ch.cps.toList)) H
section
variable {P : Program} {w : World} {K : PySem.W.Frag} {mg : Str → Option Value} {base : Heap}
theorem c__law_all_in {C_BadCommand : Addr} {C_VERBS : Addr} (T : Txt K mg w C_BadCommand C_VERBS) : Cal P w K mg base 1 "_law_all_in" spAllIn [] := by
  refine cal T.d__law_all_in sc__law_all_in (fun vs H Q E h => ?_) (fun f cdv A' outer s H vs Q E hr h => ?_)
  · obtain ⟨z, ch, rfl, _⟩ := h; rfl
  obtain ⟨z, ch, rfl, q⟩ := h
  refine ⟨_, (pss_cons (ps_for PassesOwn.never rfl (pi_str (pv 0)) (pg_name (i := 2) sc__law_all_in.nd rfl (Or.inl rfl)) (pss_one (ps_if (pt_cmpR op_notInS (pv 2) (pv 1) (by rfl)) (pss_one (ps_ret pe_bl)) pss_nil)))
      (pss_one (ps_ret pe_bl))), ?_⟩
  walk_at "rds"
  refine for_it walk_str (Pv := fun i σ H' => H' = H ∧ ∃ (y : Option V), σ = [some (.str z), some (.str ch), y] ∧ inL z.cps.toList ch.cps.toList = inL (z.cps.toList.drop i) ch.cps.toList) ⟨rfl, _, rfl, rfl⟩ (fun _ _ _ _ _ => trivial) (fun i x σ H1 H2 hi hp hy => ?_) (fun σ H1 hp => ?_)
  · obtain ⟨rfl, y, rfl, eq⟩ := hp
    obtain ⟨rfl, c, gc, rfl⟩ := hy
    have gc : z.cps.toList[i]? = some c := by rw [Array.getElem?_toList]; exact gc
    have hid : i < z.cps.toList.length := (List.getElem?_eq_some_iff.mp gc).1
    rw [List.drop_eq_getElem_cons hid] at eq
    rw [List.getElem?_eq_getElem hid] at gc
    rw [Option.some.inj gc] at eq
    have eq : inL z.cps.toList ch.cps.toList = (decide (c ∈ ch.cps.toList) && inL (z.cps.toList.drop (i + 1)) ch.cps.toList) := eq
    walk_at "rds"
    cases e : decide (c ∈ ch.cps.toList) with
    | false =>
      refine ifT rfl ?_
      rw [eq, e] at q
      exact q
    | true =>
      refine ifF rfl ?_
      exact ⟨rfl, _, rfl, by rw [eq, e, Bool.true_and]⟩
  · obtain ⟨rfl, y, rfl, eq⟩ := hp
    walk_at "rds"
    rw [eq, List.drop_of_length_le (by rw [Array.length_toList]; exact Nat.le_refl _)] at q
    exact q
end

def formsT : List (Str × Str) := [("open", "n"), ("close", "n"), ("issue", "na"), ("burn", "na"), ("pay", "nna"), ("balance", "n"), ("atleast", "na"), ("hold", "nnak"), ("settle", "k"), ("release", "k"), ("put", "kv"), ("get", "k"), ("drop", "k"), ("swap", "kvv"), ("same", "kv"), ("keys", "k")]
def conv (c : Nat) : Str := if c = 110 then "name" else if c = 97 then "amount" else if c = 107 then "key" else "value"
theorem forms_ok : ∀ x ∈ formsT, verbT.lookup x.1 = some (x.2.cps.toList.map conv) ∧ x.2.length ≤ 4 := by decide +kernel
def spStr (k : Str) : Sp := fun vs H Q _ => ∃ (c : Int), vs = [.int c] ∧ ∀ H' (z : Str), Same H H' → kindOk k z.cps.toList = true → Q (.str z) H'
def spForms : Sp := fun vs H Q _ => vs = [] ∧ ∀ H' b (as : List Addr), Same H H' → H' b = some (.lst (as.map V.ref)) → as.length = 16 → (∀ (i : Nat) (a : Addr) (x : Str × Str), as[i]? = some a → formsT[i]? = some x → H' a = some (.tup [.str x.1, .str x.2])) → Q (.ref b) H'
def spStmt : Sp := fun vs H Q _ => ∃ (a b c : Int), vs = [.int a, .int b, .int c] ∧ ∀ H' t xs, Same H H' → H t = none → H' t = some (.tup xs) → Good xs → Q (.ref t) H'
section
variable {P : Program} {w : World} {K : PySem.W.Frag} {mg : Str → Option Value} {base : Heap}
theorem c__law_name {C_BadCommand : Addr} {C_VERBS : Addr} (T : Txt K mg w C_BadCommand C_VERBS) : Cal P w K mg base 2 "_law_name" (spStr "name") [] := by
  have c__law_word := c__law_word (P := P) (w := w) (base := base) T
  refine cal T.d__law_name sc__law_name (fun vs H Q E h => ?_) (fun f cdv A' outer s H vs Q E hr h => ?_)
  · obtain ⟨c, rfl, _⟩ := h; rfl
  obtain ⟨c, rfl, q⟩ := h
  refine ⟨_, (pss_cons (ps_if (pt_cmpR op_lt (pe_op op_mod (pe_callTy call_int1 (by rfl) T.z_int (by decide +kernel) (pa_cons (pv 0) pa_nil)) pe_int) pe_int (nomark _)) (pss_one (ps_ret (pe_ix (kixl (K := K)) (pe_lst (pa_cons pe_str (pa_cons pe_str (pa_cons pe_str pa_nil)))) (pe_op op_mod (pe_op op_fdiv (pv 0) pe_int) pe_int) (fun _ _ => rfl)))) pss_nil)
      (pss_cons (ps_set (i := 1) sc__law_name.nd rfl (Or.inl rfl) (pe_op op_add pe_int (pe_op op_mod (pe_op op_fdiv (pv 0) pe_int) pe_int)))
      (pss_one (ps_ret (pe_c c__law_word hr (by decide) (by rfl) (pa_cons (pv 1) (pa_cons pe_str (pa_cons (pe_op op_fdiv (pv 0) pe_int) (pa_cons pe_int pa_nil))))))))), ?_⟩
  walk_at "rds"
  refine ite2 (fun _ => ?_) (fun _ => ?_)
  · walk_at "rds"
    intro L hL
    walk_at "rds"
    obtain ⟨v, hv, hat⟩ := atI_lt (xs := [V.str "ann", .str "bob", .str "eve"]) (i := c / 4 % 3) (by omega) (by show c / 4 % 3 < 3; omega)
    have : ∃ z : Str, v = .str z ∧ kindOk "name" z.cps.toList = true := by
      simp only [List.mem_cons, List.not_mem_nil, or_false] at hv
      rcases hv with rfl | rfl | rfl <;> exact ⟨_, rfl, by decide +kernel⟩
    obtain ⟨z, rfl, hz⟩ := this
    refine ⟨L, _, _, _, rfl, rfl, sq upd_same, hat, ?_⟩
    exact q _ _ (same_upd hL) hz
  walk_at "rds"
  obtain ⟨n, hn⟩ := Int.eq_ofNat_of_zero_le (show 0 ≤ 1 + c / 4 % 12 by omega)
  delta tNil
  refine ⟨n, _, _, _, by rw [← hn]; rfl, by omega, by decide +kernel, by decide +kernel, fun z hz hc => ?_⟩
  refine q _ z (Same.refl _) ?_
  unfold kindOk
  rw [if_pos rfl]
  unfold nmL
  rw [len_tl, hz, decide_eq_true (by omega), decide_eq_true (by omega)]
  exact List.all_eq_true.mpr fun d m => decide_eq_true (hc d m)
theorem c__law_key {C_BadCommand : Addr} {C_VERBS : Addr} (T : Txt K mg w C_BadCommand C_VERBS) : Cal P w K mg base 2 "_law_key" (spStr "key") [] := by
  have c__law_word := c__law_word (P := P) (w := w) (base := base) T
  refine cal T.d__law_key sc__law_key (fun vs H Q E h => ?_) (fun f cdv A' outer s H vs Q E hr h => ?_)
  · obtain ⟨c, rfl, _⟩ := h; rfl
  obtain ⟨c, rfl, q⟩ := h
  refine ⟨_, (pss_cons (ps_if (pt_cmpR op_lt (pe_op op_mod (pe_callTy call_int1 (by rfl) T.z_int (by decide +kernel) (pa_cons (pv 0) pa_nil)) pe_int) pe_int (nomark _)) (pss_one (ps_ret (pe_ix (kixl (K := K)) (pe_lst (pa_cons pe_str (pa_cons pe_str (pa_cons pe_str pa_nil)))) (pe_op op_mod (pe_op op_fdiv (pv 0) pe_int) pe_int) (fun _ _ => rfl)))) pss_nil)
      (pss_cons (ps_set (i := 1) sc__law_key.nd rfl (Or.inl rfl) (pe_op op_add pe_int (pe_op op_mod (pe_op op_fdiv (pv 0) pe_int) pe_int)))
      (pss_one (ps_ret (pe_c c__law_word hr (by decide) (by rfl) (pa_cons (pv 1) (pa_cons pe_str (pa_cons (pe_op op_fdiv (pv 0) pe_int) (pa_cons pe_int pa_nil))))))))), ?_⟩
  walk_at "rds"
  refine ite2 (fun _ => ?_) (fun _ => ?_)
  · walk_at "rds"
    intro L hL
    walk_at "rds"
    obtain ⟨v, hv, hat⟩ := atI_lt (xs := [V.str "k", .str "k.1", .str "k.22"]) (i := c / 4 % 3) (by omega) (by show c / 4 % 3 < 3; omega)
    have : ∃ z : Str, v = .str z ∧ kindOk "key" z.cps.toList = true := by
      simp only [List.mem_cons, List.not_mem_nil, or_false] at hv
      rcases hv with rfl | rfl | rfl <;> exact ⟨_, rfl, by decide +kernel⟩
    obtain ⟨z, rfl, hz⟩ := this
    refine ⟨L, _, _, _, rfl, rfl, sq upd_same, hat, ?_⟩
    exact q _ _ (same_upd hL) hz
  walk_at "rds"
  obtain ⟨n, hn⟩ := Int.eq_ofNat_of_zero_le (show 0 ≤ 1 + c / 4 % 20 by omega)
  delta tNil
  refine ⟨n, _, _, _, by rw [← hn]; rfl, by omega, by decide +kernel, by decide +kernel, fun z hz hc => ?_⟩
  refine q _ z (Same.refl _) ?_
  unfold kindOk
  rw [if_neg (by decide +kernel), if_neg (by decide +kernel), if_pos rfl]
  unfold kyL
  rw [len_tl, hz, decide_eq_true (by omega), decide_eq_true (by omega)]
  exact List.all_eq_true.mpr fun d m => decide_eq_true ((show ∀ d ∈ (Str.ofString "abcdefghijklmnopqrstuvwxyz0123456789.").cps.toList, d ∈ keysL by decide +kernel) d (hc d m))
theorem c__law_value {C_BadCommand : Addr} {C_VERBS : Addr} (T : Txt K mg w C_BadCommand C_VERBS) : Cal P w K mg base 2 "_law_value" (spStr "value") [] := by
  have c__law_word := c__law_word (P := P) (w := w) (base := base) T
  refine cal T.d__law_value sc__law_value (fun vs H Q E h => ?_) (fun f cdv A' outer s H vs Q E hr h => ?_)
  · obtain ⟨c, rfl, _⟩ := h; rfl
  obtain ⟨c, rfl, q⟩ := h
  refine ⟨_, (pss_cons (ps_if (pt_cmpR op_lt (pe_op op_mod (pe_callTy call_int1 (by rfl) T.z_int (by decide +kernel) (pa_cons (pv 0) pa_nil)) pe_int) pe_int (nomark _)) (pss_one (ps_ret (pe_ix (kixl (K := K)) (pe_lst (pa_cons pe_str (pa_cons pe_str (pa_cons pe_str pa_nil)))) (pe_op op_mod (pe_op op_fdiv (pv 0) pe_int) pe_int) (fun _ _ => rfl)))) pss_nil)
      (pss_cons (ps_set (i := 1) sc__law_value.nd rfl (Or.inl rfl) (pe_op op_add pe_int (pe_op op_mod (pe_op op_fdiv (pv 0) pe_int) pe_int)))
      (pss_cons (ps_set (i := 2) sc__law_value.nd rfl (Or.inl rfl) pe_str)
      (pss_one (ps_ret (pe_c c__law_word hr (by decide) (by rfl) (pa_cons (pv 1) (pa_cons (pv 2) (pa_cons (pe_op op_fdiv (pv 0) pe_int) (pa_cons pe_int pa_nil)))))))))), ?_⟩
  walk_at "rds"
  refine ite2 (fun _ => ?_) (fun _ => ?_)
  · walk_at "rds"
    intro L hL
    walk_at "rds"
    obtain ⟨v, hv, hat⟩ := atI_lt (xs := [V.str "x", .str "yy", .str "0"]) (i := c / 4 % 3) (by omega) (by show c / 4 % 3 < 3; omega)
    have : ∃ z : Str, v = .str z ∧ kindOk "value" z.cps.toList = true := by
      simp only [List.mem_cons, List.not_mem_nil, or_false] at hv
      rcases hv with rfl | rfl | rfl <;> exact ⟨_, rfl, by decide +kernel⟩
    obtain ⟨z, rfl, hz⟩ := this
    refine ⟨L, _, _, _, rfl, rfl, sq upd_same, hat, ?_⟩
    exact q _ _ (same_upd hL) hz
  walk_at "rds"
  obtain ⟨n, hn⟩ := Int.eq_ofNat_of_zero_le (show 0 ≤ 1 + c / 4 % 40 by omega)
  delta tNil
  refine ⟨n, _, _, _, by rw [← hn]; rfl, by omega, by decide +kernel, by decide +kernel, fun z hz hc => ?_⟩
  refine q _ z (Same.refl _) ?_
  unfold kindOk
  rw [if_neg (by decide +kernel), if_neg (by decide +kernel), if_neg (by decide +kernel)]
  have hz2 := len_tl z
  have hk : ∀ d ∈ (Str.ofString "!\"#$&'()*+,-./0123456789:<=>?@ABCDEFGHIJKLMNOPQRSTUVWXYZ[\\]^_`abcdefghijklmnopqrstuvwxyz{|}~").cps.toList, d ≠ 32 ∧ d ≠ 59 ∧ prC d = true := by decide +kernel
  have hc2 := fun d m => hk d (hc d m)
  unfold vlL
  have he : z.cps.toList.isEmpty = false := by
    cases e : z.cps.toList with
    | nil => rw [e] at hz2; simp at hz2; omega
    | cons _ _ => rfl
  rw [he, decide_eq_false (fun m => (hc2 _ m).1 rfl), decide_eq_false (fun m => (hc2 _ m).2.1 rfl), List.all_eq_true.mpr (fun d m => (hc2 d m).2.2), decide_eq_true (by omega)]
  rfl
theorem c__law_amount {C_BadCommand : Addr} {C_VERBS : Addr} (T : Txt K mg w C_BadCommand C_VERBS) : Cal P w K mg base 2 "_law_amount" (fun vs H Q _ => ∃ (c : Int), vs = [.int c] ∧ ∀ n : Nat, n < 10 ^ 12 → Q (.int n) H) [] := by
  refine cal T.d__law_amount sc__law_amount (fun vs H Q E h => ?_) (fun f cdv A' outer s H vs Q E hr h => ?_)
  · obtain ⟨c, rfl, _⟩ := h; rfl
  obtain ⟨c, rfl, q⟩ := h
  refine ⟨_, (pss_cons (ps_if (pt_cmpR op_lt (pe_op op_mod (pe_callTy call_int1 (by rfl) T.z_int (by decide +kernel) (pa_cons (pv 0) pa_nil)) pe_int) pe_int (nomark _)) (pss_one (ps_ret (pe_op op_mod (pe_op op_fdiv (pv 0) pe_int) pe_int))) pss_nil)
      (pss_cons (ps_if (pt_cmpR op_eq (pe_op op_mod (pe_op op_fdiv (pv 0) pe_int) pe_int) pe_int (nomark _)) (pss_one (ps_ret (pe_op op_sub (pe_op op_sub (pe_op op_pow pe_int pe_int) pe_int) (pe_op op_mod (pe_op op_fdiv (pv 0) pe_int) pe_int)))) pss_nil)
      (pss_one (ps_ret (pe_op op_mod (pe_op op_fdiv (pv 0) pe_int) (pe_op op_pow pe_int pe_int)))))), ?_⟩
  walk_at "rds"
  have nat : ∀ i : Int, 0 ≤ i → i < 10 ^ 12 → Q (.int i) H := fun i h0 h1 => by
    obtain ⟨n, rfl⟩ := Int.eq_ofNat_of_zero_le h0
    exact q n (by omega)
  have e12 : (10:Int)^Int.toNat 12 = 1000000000000 := by decide
  refine ite2 (fun _ => ?_) (fun _ => ?_)
  · walk_at "rds"
    exact nat _ (by omega) (by omega)
  walk_at "rds"
  refine ite2 (fun _ => ?_) (fun _ => ?_)
  · walk_at "rds"
    rw [e12]
    show Q (.int (1000000000000 - 1 - c / 32 % 3)) H
    exact nat _ (by omega) (by omega)
  walk_at "rds"
  rw [e12]
  show Q (.int (c / 32 % 1000000000000)) H
  exact nat _ (by omega) (by omega)
theorem c__law_forms {C_BadCommand : Addr} {C_VERBS : Addr} (T : Txt K mg w C_BadCommand C_VERBS) : Cal P w K mg base 1 "_law_forms" spForms [] := by
  refine cal T.d__law_forms sc__law_forms (fun vs H Q E h => ?_) (fun f cdv A' outer s H vs Q E hr h => ?_)
  · obtain ⟨rfl, _⟩ := h; rfl
  obtain ⟨rfl, q⟩ := h
  refine ⟨_, (pss_cons (ps_set (i := 0) sc__law_forms.nd rfl (Or.inl rfl) (pe_lst (pa_cons (pe_tup (pa_cons pe_str (pa_cons pe_str pa_nil))) (pa_cons (pe_tup (pa_cons pe_str (pa_cons pe_str pa_nil))) (pa_cons (pe_tup (pa_cons pe_str (pa_cons pe_str pa_nil))) (pa_cons (pe_tup (pa_cons pe_str (pa_cons pe_str pa_nil))) (pa_cons (pe_tup (pa_cons pe_str (pa_cons pe_str pa_nil))) (pa_cons (pe_tup (pa_cons pe_str (pa_cons pe_str pa_nil))) pa_nil))))))))
      (pss_cons (ps_set (i := 0) sc__law_forms.nd rfl (Or.inl rfl) (pe_op op_cat (pv 0) (pe_lst (pa_cons (pe_tup (pa_cons pe_str (pa_cons pe_str pa_nil))) (pa_cons (pe_tup (pa_cons pe_str (pa_cons pe_str pa_nil))) (pa_cons (pe_tup (pa_cons pe_str (pa_cons pe_str pa_nil))) (pa_cons (pe_tup (pa_cons pe_str (pa_cons pe_str pa_nil))) (pa_cons (pe_tup (pa_cons pe_str (pa_cons pe_str pa_nil))) pa_nil))))))))
      (pss_one (ps_ret (pe_op op_cat (pv 0) (pe_lst (pa_cons (pe_tup (pa_cons pe_str (pa_cons pe_str pa_nil))) (pa_cons (pe_tup (pa_cons pe_str (pa_cons pe_str pa_nil))) (pa_cons (pe_tup (pa_cons pe_str (pa_cons pe_str pa_nil))) (pa_cons (pe_tup (pa_cons pe_str (pa_cons pe_str pa_nil))) (pa_cons (pe_tup (pa_cons pe_str (pa_cons pe_str pa_nil))) pa_nil))))))))))), ?_⟩
  have sl := sizeLine_eq
  walk_at "rds"
  intro t0 n0
  have s0 := same_upd (o := (.tup [.str (Str.ofString "open"), .str (Str.ofString "n")])) n0
  have h0 : upd H t0 (.tup [.str (Str.ofString "open"), .str (Str.ofString "n")]) t0 = some (.tup [.str (Str.ofString "open"), .str (Str.ofString "n")]) := upd_same
  generalize upd H t0 (.tup [.str (Str.ofString "open"), .str (Str.ofString "n")]) = H0 at s0 h0 ⊢
  walk_at "rds"
  intro t1 n1
  have s1 := same_upd (o := (.tup [.str (Str.ofString "close"), .str (Str.ofString "n")])) n1
  have h1 : upd H0 t1 (.tup [.str (Str.ofString "close"), .str (Str.ofString "n")]) t1 = some (.tup [.str (Str.ofString "close"), .str (Str.ofString "n")]) := upd_same
  generalize upd H0 t1 (.tup [.str (Str.ofString "close"), .str (Str.ofString "n")]) = H1 at s1 h1 ⊢
  walk_at "rds"
  intro t2 n2
  have s2 := same_upd (o := (.tup [.str (Str.ofString "issue"), .str (Str.ofString "na")])) n2
  have h2 : upd H1 t2 (.tup [.str (Str.ofString "issue"), .str (Str.ofString "na")]) t2 = some (.tup [.str (Str.ofString "issue"), .str (Str.ofString "na")]) := upd_same
  generalize upd H1 t2 (.tup [.str (Str.ofString "issue"), .str (Str.ofString "na")]) = H2 at s2 h2 ⊢
  walk_at "rds"
  intro t3 n3
  have s3 := same_upd (o := (.tup [.str (Str.ofString "burn"), .str (Str.ofString "na")])) n3
  have h3 : upd H2 t3 (.tup [.str (Str.ofString "burn"), .str (Str.ofString "na")]) t3 = some (.tup [.str (Str.ofString "burn"), .str (Str.ofString "na")]) := upd_same
  generalize upd H2 t3 (.tup [.str (Str.ofString "burn"), .str (Str.ofString "na")]) = H3 at s3 h3 ⊢
  walk_at "rds"
  intro t4 n4
  have s4 := same_upd (o := (.tup [.str (Str.ofString "pay"), .str (Str.ofString "nna")])) n4
  have h4 : upd H3 t4 (.tup [.str (Str.ofString "pay"), .str (Str.ofString "nna")]) t4 = some (.tup [.str (Str.ofString "pay"), .str (Str.ofString "nna")]) := upd_same
  generalize upd H3 t4 (.tup [.str (Str.ofString "pay"), .str (Str.ofString "nna")]) = H4 at s4 h4 ⊢
  walk_at "rds"
  intro t5 n5
  have s5 := same_upd (o := (.tup [.str (Str.ofString "balance"), .str (Str.ofString "n")])) n5
  have h5 : upd H4 t5 (.tup [.str (Str.ofString "balance"), .str (Str.ofString "n")]) t5 = some (.tup [.str (Str.ofString "balance"), .str (Str.ofString "n")]) := upd_same
  generalize upd H4 t5 (.tup [.str (Str.ofString "balance"), .str (Str.ofString "n")]) = H5 at s5 h5 ⊢
  walk_at "rds"
  intro L0 m0
  have u0 := same_upd (o := .lst [V.ref t0, V.ref t1, V.ref t2, V.ref t3, V.ref t4, V.ref t5]) m0
  have l0 : upd H5 L0 (.lst [V.ref t0, V.ref t1, V.ref t2, V.ref t3, V.ref t4, V.ref t5]) L0 = some (.lst [V.ref t0, V.ref t1, V.ref t2, V.ref t3, V.ref t4, V.ref t5]) := upd_same
  generalize upd H5 L0 (.lst [V.ref t0, V.ref t1, V.ref t2, V.ref t3, V.ref t4, V.ref t5]) = G0 at u0 l0 ⊢
  walk_at "rds"
  intro t6 n6
  have s6 := same_upd (o := (.tup [.str (Str.ofString "atleast"), .str (Str.ofString "na")])) n6
  have h6 : upd G0 t6 (.tup [.str (Str.ofString "atleast"), .str (Str.ofString "na")]) t6 = some (.tup [.str (Str.ofString "atleast"), .str (Str.ofString "na")]) := upd_same
  generalize upd G0 t6 (.tup [.str (Str.ofString "atleast"), .str (Str.ofString "na")]) = H6 at s6 h6 ⊢
  walk_at "rds"
  intro t7 n7
  have s7 := same_upd (o := (.tup [.str (Str.ofString "hold"), .str (Str.ofString "nnak")])) n7
  have h7 : upd H6 t7 (.tup [.str (Str.ofString "hold"), .str (Str.ofString "nnak")]) t7 = some (.tup [.str (Str.ofString "hold"), .str (Str.ofString "nnak")]) := upd_same
  generalize upd H6 t7 (.tup [.str (Str.ofString "hold"), .str (Str.ofString "nnak")]) = H7 at s7 h7 ⊢
  walk_at "rds"
  intro t8 n8
  have s8 := same_upd (o := (.tup [.str (Str.ofString "settle"), .str (Str.ofString "k")])) n8
  have h8 : upd H7 t8 (.tup [.str (Str.ofString "settle"), .str (Str.ofString "k")]) t8 = some (.tup [.str (Str.ofString "settle"), .str (Str.ofString "k")]) := upd_same
  generalize upd H7 t8 (.tup [.str (Str.ofString "settle"), .str (Str.ofString "k")]) = H8 at s8 h8 ⊢
  walk_at "rds"
  intro t9 n9
  have s9 := same_upd (o := (.tup [.str (Str.ofString "release"), .str (Str.ofString "k")])) n9
  have h9 : upd H8 t9 (.tup [.str (Str.ofString "release"), .str (Str.ofString "k")]) t9 = some (.tup [.str (Str.ofString "release"), .str (Str.ofString "k")]) := upd_same
  generalize upd H8 t9 (.tup [.str (Str.ofString "release"), .str (Str.ofString "k")]) = H9 at s9 h9 ⊢
  walk_at "rds"
  intro t10 n10
  have s10 := same_upd (o := (.tup [.str (Str.ofString "put"), .str (Str.ofString "kv")])) n10
  have h10 : upd H9 t10 (.tup [.str (Str.ofString "put"), .str (Str.ofString "kv")]) t10 = some (.tup [.str (Str.ofString "put"), .str (Str.ofString "kv")]) := upd_same
  generalize upd H9 t10 (.tup [.str (Str.ofString "put"), .str (Str.ofString "kv")]) = H10 at s10 h10 ⊢
  walk_at "rds"
  intro L1 m1
  have u1 := same_upd (o := .lst [V.ref t6, V.ref t7, V.ref t8, V.ref t9, V.ref t10]) m1
  have l1 : upd H10 L1 (.lst [V.ref t6, V.ref t7, V.ref t8, V.ref t9, V.ref t10]) L1 = some (.lst [V.ref t6, V.ref t7, V.ref t8, V.ref t9, V.ref t10]) := upd_same
  generalize upd H10 L1 (.lst [V.ref t6, V.ref t7, V.ref t8, V.ref t9, V.ref t10]) = G1 at u1 l1 ⊢
  walk_at "rds"
  refine ⟨L0, L1, _, _, rfl, rfl, (((((s6.trans s7).trans s8).trans s9).trans s10).trans u1) _ _ l0, l1, by rw [sl]; show 11 ≤ 16777216; decide, fun M1 k1 => ?_⟩
  have w1 := same_upd (o := .lst [V.ref t0, V.ref t1, V.ref t2, V.ref t3, V.ref t4, V.ref t5, V.ref t6, V.ref t7, V.ref t8, V.ref t9, V.ref t10]) k1
  have r1 : upd G1 M1 (.lst [V.ref t0, V.ref t1, V.ref t2, V.ref t3, V.ref t4, V.ref t5, V.ref t6, V.ref t7, V.ref t8, V.ref t9, V.ref t10]) M1 = some (.lst [V.ref t0, V.ref t1, V.ref t2, V.ref t3, V.ref t4, V.ref t5, V.ref t6, V.ref t7, V.ref t8, V.ref t9, V.ref t10]) := upd_same
  show gName 0 (V.ref M1) _ (upd G1 M1 (.lst [V.ref t0, V.ref t1, V.ref t2, V.ref t3, V.ref t4, V.ref t5, V.ref t6, V.ref t7, V.ref t8, V.ref t9, V.ref t10])) _
  generalize upd G1 M1 (.lst [V.ref t0, V.ref t1, V.ref t2, V.ref t3, V.ref t4, V.ref t5, V.ref t6, V.ref t7, V.ref t8, V.ref t9, V.ref t10]) = F1 at w1 r1 ⊢
  walk_at "rds"
  intro t11 n11
  have s11 := same_upd (o := (.tup [.str (Str.ofString "get"), .str (Str.ofString "k")])) n11
  have h11 : upd F1 t11 (.tup [.str (Str.ofString "get"), .str (Str.ofString "k")]) t11 = some (.tup [.str (Str.ofString "get"), .str (Str.ofString "k")]) := upd_same
  generalize upd F1 t11 (.tup [.str (Str.ofString "get"), .str (Str.ofString "k")]) = H11 at s11 h11 ⊢
  walk_at "rds"
  intro t12 n12
  have s12 := same_upd (o := (.tup [.str (Str.ofString "drop"), .str (Str.ofString "k")])) n12
  have h12 : upd H11 t12 (.tup [.str (Str.ofString "drop"), .str (Str.ofString "k")]) t12 = some (.tup [.str (Str.ofString "drop"), .str (Str.ofString "k")]) := upd_same
  generalize upd H11 t12 (.tup [.str (Str.ofString "drop"), .str (Str.ofString "k")]) = H12 at s12 h12 ⊢
  walk_at "rds"
  intro t13 n13
  have s13 := same_upd (o := (.tup [.str (Str.ofString "swap"), .str (Str.ofString "kvv")])) n13
  have h13 : upd H12 t13 (.tup [.str (Str.ofString "swap"), .str (Str.ofString "kvv")]) t13 = some (.tup [.str (Str.ofString "swap"), .str (Str.ofString "kvv")]) := upd_same
  generalize upd H12 t13 (.tup [.str (Str.ofString "swap"), .str (Str.ofString "kvv")]) = H13 at s13 h13 ⊢
  walk_at "rds"
  intro t14 n14
  have s14 := same_upd (o := (.tup [.str (Str.ofString "same"), .str (Str.ofString "kv")])) n14
  have h14 : upd H13 t14 (.tup [.str (Str.ofString "same"), .str (Str.ofString "kv")]) t14 = some (.tup [.str (Str.ofString "same"), .str (Str.ofString "kv")]) := upd_same
  generalize upd H13 t14 (.tup [.str (Str.ofString "same"), .str (Str.ofString "kv")]) = H14 at s14 h14 ⊢
  walk_at "rds"
  intro t15 n15
  have s15 := same_upd (o := (.tup [.str (Str.ofString "keys"), .str (Str.ofString "k")])) n15
  have h15 : upd H14 t15 (.tup [.str (Str.ofString "keys"), .str (Str.ofString "k")]) t15 = some (.tup [.str (Str.ofString "keys"), .str (Str.ofString "k")]) := upd_same
  generalize upd H14 t15 (.tup [.str (Str.ofString "keys"), .str (Str.ofString "k")]) = H15 at s15 h15 ⊢
  walk_at "rds"
  intro L2 m2
  have u2 := same_upd (o := .lst [V.ref t11, V.ref t12, V.ref t13, V.ref t14, V.ref t15]) m2
  have l2 : upd H15 L2 (.lst [V.ref t11, V.ref t12, V.ref t13, V.ref t14, V.ref t15]) L2 = some (.lst [V.ref t11, V.ref t12, V.ref t13, V.ref t14, V.ref t15]) := upd_same
  generalize upd H15 L2 (.lst [V.ref t11, V.ref t12, V.ref t13, V.ref t14, V.ref t15]) = G2 at u2 l2 ⊢
  walk_at "rds"
  refine ⟨M1, L2, _, _, rfl, rfl, (((((s11.trans s12).trans s13).trans s14).trans s15).trans u2) _ _ r1, l2, by rw [sl]; show 16 ≤ 16777216; decide, fun M2 k2 => ?_⟩
  have w2 := same_upd (o := .lst [V.ref t0, V.ref t1, V.ref t2, V.ref t3, V.ref t4, V.ref t5, V.ref t6, V.ref t7, V.ref t8, V.ref t9, V.ref t10, V.ref t11, V.ref t12, V.ref t13, V.ref t14, V.ref t15]) k2
  have r2 : upd G2 M2 (.lst [V.ref t0, V.ref t1, V.ref t2, V.ref t3, V.ref t4, V.ref t5, V.ref t6, V.ref t7, V.ref t8, V.ref t9, V.ref t10, V.ref t11, V.ref t12, V.ref t13, V.ref t14, V.ref t15]) M2 = some (.lst [V.ref t0, V.ref t1, V.ref t2, V.ref t3, V.ref t4, V.ref t5, V.ref t6, V.ref t7, V.ref t8, V.ref t9, V.ref t10, V.ref t11, V.ref t12, V.ref t13, V.ref t14, V.ref t15]) := upd_same
  clear n0 n1 n2 n3 n4 n5 n6 n7 n8 n9 n10 n11 n12 n13 n14 n15
  have sa : Same H _ := ((((((((((((((((((((s0.trans s1).trans s2).trans s3).trans s4).trans s5).trans u0).trans s6).trans s7).trans s8).trans s9).trans s10).trans u1).trans w1).trans s11).trans s12).trans s13).trans s14).trans s15).trans u2).trans w2)
  refine q _ M2 [t0, t1, t2, t3, t4, t5, t6, t7, t8, t9, t10, t11, t12, t13, t14, t15] sa r2 rfl fun i a x e1 e2 => ?_
  match i, e1, e2 with
  | 0, e1, e2 =>
    obtain rfl : t0 = a := Option.some.inj e1
    obtain rfl : (Str.ofString "open", Str.ofString "n") = x := Option.some.inj e2
    exact (((((((((((((((((((s1.trans s2).trans s3).trans s4).trans s5).trans u0).trans s6).trans s7).trans s8).trans s9).trans s10).trans u1).trans w1).trans s11).trans s12).trans s13).trans s14).trans s15).trans u2).trans w2) _ _ h0
  | 1, e1, e2 =>
    obtain rfl : t1 = a := Option.some.inj e1
    obtain rfl : (Str.ofString "close", Str.ofString "n") = x := Option.some.inj e2
    exact ((((((((((((((((((s2.trans s3).trans s4).trans s5).trans u0).trans s6).trans s7).trans s8).trans s9).trans s10).trans u1).trans w1).trans s11).trans s12).trans s13).trans s14).trans s15).trans u2).trans w2) _ _ h1
  | 2, e1, e2 =>
    obtain rfl : t2 = a := Option.some.inj e1
    obtain rfl : (Str.ofString "issue", Str.ofString "na") = x := Option.some.inj e2
    exact (((((((((((((((((s3.trans s4).trans s5).trans u0).trans s6).trans s7).trans s8).trans s9).trans s10).trans u1).trans w1).trans s11).trans s12).trans s13).trans s14).trans s15).trans u2).trans w2) _ _ h2
  | 3, e1, e2 =>
    obtain rfl : t3 = a := Option.some.inj e1
    obtain rfl : (Str.ofString "burn", Str.ofString "na") = x := Option.some.inj e2
    exact ((((((((((((((((s4.trans s5).trans u0).trans s6).trans s7).trans s8).trans s9).trans s10).trans u1).trans w1).trans s11).trans s12).trans s13).trans s14).trans s15).trans u2).trans w2) _ _ h3
  | 4, e1, e2 =>
    obtain rfl : t4 = a := Option.some.inj e1
    obtain rfl : (Str.ofString "pay", Str.ofString "nna") = x := Option.some.inj e2
    exact (((((((((((((((s5.trans u0).trans s6).trans s7).trans s8).trans s9).trans s10).trans u1).trans w1).trans s11).trans s12).trans s13).trans s14).trans s15).trans u2).trans w2) _ _ h4
  | 5, e1, e2 =>
    obtain rfl : t5 = a := Option.some.inj e1
    obtain rfl : (Str.ofString "balance", Str.ofString "n") = x := Option.some.inj e2
    exact ((((((((((((((u0.trans s6).trans s7).trans s8).trans s9).trans s10).trans u1).trans w1).trans s11).trans s12).trans s13).trans s14).trans s15).trans u2).trans w2) _ _ h5
  | 6, e1, e2 =>
    obtain rfl : t6 = a := Option.some.inj e1
    obtain rfl : (Str.ofString "atleast", Str.ofString "na") = x := Option.some.inj e2
    exact ((((((((((((s7.trans s8).trans s9).trans s10).trans u1).trans w1).trans s11).trans s12).trans s13).trans s14).trans s15).trans u2).trans w2) _ _ h6
  | 7, e1, e2 =>
    obtain rfl : t7 = a := Option.some.inj e1
    obtain rfl : (Str.ofString "hold", Str.ofString "nnak") = x := Option.some.inj e2
    exact (((((((((((s8.trans s9).trans s10).trans u1).trans w1).trans s11).trans s12).trans s13).trans s14).trans s15).trans u2).trans w2) _ _ h7
  | 8, e1, e2 =>
    obtain rfl : t8 = a := Option.some.inj e1
    obtain rfl : (Str.ofString "settle", Str.ofString "k") = x := Option.some.inj e2
    exact ((((((((((s9.trans s10).trans u1).trans w1).trans s11).trans s12).trans s13).trans s14).trans s15).trans u2).trans w2) _ _ h8
  | 9, e1, e2 =>
    obtain rfl : t9 = a := Option.some.inj e1
    obtain rfl : (Str.ofString "release", Str.ofString "k") = x := Option.some.inj e2
    exact (((((((((s10.trans u1).trans w1).trans s11).trans s12).trans s13).trans s14).trans s15).trans u2).trans w2) _ _ h9
  | 10, e1, e2 =>
    obtain rfl : t10 = a := Option.some.inj e1
    obtain rfl : (Str.ofString "put", Str.ofString "kv") = x := Option.some.inj e2
    exact ((((((((u1.trans w1).trans s11).trans s12).trans s13).trans s14).trans s15).trans u2).trans w2) _ _ h10
  | 11, e1, e2 =>
    obtain rfl : t11 = a := Option.some.inj e1
    obtain rfl : (Str.ofString "get", Str.ofString "k") = x := Option.some.inj e2
    exact (((((s12.trans s13).trans s14).trans s15).trans u2).trans w2) _ _ h11
  | 12, e1, e2 =>
    obtain rfl : t12 = a := Option.some.inj e1
    obtain rfl : (Str.ofString "drop", Str.ofString "k") = x := Option.some.inj e2
    exact ((((s13.trans s14).trans s15).trans u2).trans w2) _ _ h12
  | 13, e1, e2 =>
    obtain rfl : t13 = a := Option.some.inj e1
    obtain rfl : (Str.ofString "swap", Str.ofString "kvv") = x := Option.some.inj e2
    exact (((s14.trans s15).trans u2).trans w2) _ _ h13
  | 14, e1, e2 =>
    obtain rfl : t14 = a := Option.some.inj e1
    obtain rfl : (Str.ofString "same", Str.ofString "kv") = x := Option.some.inj e2
    exact ((s15.trans u2).trans w2) _ _ h14
  | 15, e1, e2 =>
    obtain rfl : t15 = a := Option.some.inj e1
    obtain rfl : (Str.ofString "keys", Str.ofString "k") = x := Option.some.inj e2
    exact (u2.trans w2) _ _ h15
  | n + 16, e1, e2 => cases e1
end
theorem sgnD (c m : Nat) : decide (V.str ⟨#[c]⟩ = V.str ⟨#[m]⟩) = decide (c = m) := by
  apply decide_eq_decide.mpr
  constructor
  · intro h
    have := congrArg (fun v => match v with | V.str s => s.cps.toList | _ => []) h
    have : [c] = [m] := this
    simpa using this
  · rintro rfl; rfl
section
variable {P : Program} {w : World} {K : PySem.W.Frag} {mg : Str → Option Value} {base : Heap}
theorem c__law_statement {C_BadCommand : Addr} {C_VERBS : Addr} (T : Txt K mg w C_BadCommand C_VERBS) : Cal P w K mg base 3 "_law_statement" spStmt [] := by
  have c__law_forms := c__law_forms (P := P) (w := w) (base := base) T
  have c__law_name := c__law_name (P := P) (w := w) (base := base) T
  have c__law_amount := c__law_amount (P := P) (w := w) (base := base) T
  have c__law_key := c__law_key (P := P) (w := w) (base := base) T
  have c__law_value := c__law_value (P := P) (w := w) (base := base) T
  refine cal T.d__law_statement sc__law_statement (fun vs H Q E h => ?_) (fun f cdv A' outer s H vs Q E hr h => ?_)
  · obtain ⟨a, b, c, rfl, _⟩ := h; rfl
  obtain ⟨a, b, c, rfl, q⟩ := h
  refine ⟨_, (pss_cons (ps_asg (pe_ix (kixl (K := K)) (pe_c0 c__law_forms hr (by decide) (by rfl)) (pe_op op_mod (pe_callTy call_int1 (by rfl) T.z_int (by decide +kernel) (pa_cons (pv 0) pa_nil)) pe_int) (fun _ _ => rfl)) (pg_tup (by rfl) (pgs_cons (pg_name (i := 3) sc__law_statement.nd rfl (Or.inl rfl)) (pgs_cons (pg_name (i := 4) sc__law_statement.nd rfl (Or.inl rfl)) pgs_nil))))
      (pss_cons (ps_set (i := 5) sc__law_statement.nd rfl (Or.inl rfl) (pe_lst (pa_cons (pv 3) pa_nil)))
      (pss_cons (ps_set (i := 6) sc__law_statement.nd rfl (Or.inl rfl) (pe_lst (pa_cons (pv 1) (pa_cons (pv 2) (pa_cons (pe_op op_fdiv (pv 2) pe_int) (pa_cons (pe_op op_fdiv (pv 2) pe_int) pa_nil))))))
      (pss_cons (ps_for PassesOwn.never rfl (pi_range1 (by rfl) T.z_range (pa_cons (pe_callB call_len_str (by rfl) T.z_len (by decide +kernel) (pa_cons (pv 4) pa_nil)) pa_nil)) (pg_name (i := 7) sc__law_statement.nd rfl (Or.inl rfl)) (pss_one (ps_if (pt_cmpR op_eq (pe_ix ix_str (pv 4) (pv 7) (fun _ _ => rfl)) pe_str (nomark _)) (pss_one (ps_expr (pe_bm PySem.F.plainAttrs_list PySem.F.slot_list_append PySem.F.type_list_append mt_append (pv 5) (pa_cons (pe_c c__law_name hr (by decide) (by rfl) (pa_cons (pe_ix (kixl (K := K)) (pv 6) (pv 7) (fun _ _ => rfl)) pa_nil)) pa_nil)))) (pss_one (ps_if (pt_cmpR op_eq (pe_ix ix_str (pv 4) (pv 7) (fun _ _ => rfl)) pe_str (nomark _)) (pss_one (ps_expr (pe_bm PySem.F.plainAttrs_list PySem.F.slot_list_append PySem.F.type_list_append mt_append (pv 5) (pa_cons (pe_c c__law_amount hr (by decide) (by rfl) (pa_cons (pe_ix (kixl (K := K)) (pv 6) (pv 7) (fun _ _ => rfl)) pa_nil)) pa_nil)))) (pss_one (ps_if (pt_cmpR op_eq (pe_ix ix_str (pv 4) (pv 7) (fun _ _ => rfl)) pe_str (nomark _)) (pss_one (ps_expr (pe_bm PySem.F.plainAttrs_list PySem.F.slot_list_append PySem.F.type_list_append mt_append (pv 5) (pa_cons (pe_c c__law_key hr (by decide) (by rfl) (pa_cons (pe_ix (kixl (K := K)) (pv 6) (pv 7) (fun _ _ => rfl)) pa_nil)) pa_nil)))) (pss_one (ps_expr (pe_bm PySem.F.plainAttrs_list PySem.F.slot_list_append PySem.F.type_list_append mt_append (pv 5) (pa_cons (pe_c c__law_value hr (by decide) (by rfl) (pa_cons (pe_ix (kixl (K := K)) (pv 6) (pv 7) (fun _ _ => rfl)) pa_nil)) pa_nil)))))))))))
      (pss_one (ps_ret (pe_callTy call_tuple_of (by rfl) T.z_tuple (by decide +kernel) (pa_cons (pv 5) pa_nil)))))))), ?_⟩
  have sl := sizeLine_eq
  walk_at "rds"
  delta tNil
  refine ⟨rfl, fun H1 L as s1 hL la hf => ?_⟩
  obtain ⟨i, hi⟩ := Int.eq_ofNat_of_zero_le (show 0 ≤ a % 16 by omega)
  have i16 : i < 16 := by omega
  have g1 : as[i]? = some as[i] := List.getElem?_eq_getElem (by omega)
  have g2 : formsT[i]? = some formsT[i] := List.getElem?_eq_getElem (show i < formsT.length from i16)
  obtain ⟨hv, hk⟩ := forms_ok _ (List.mem_of_getElem? g2)
  have ht := hf i _ _ g1 g2
  generalize formsT[i] = fo at hv hk ht g2
  obtain ⟨verb, kinds⟩ := fo
  generalize as[i] = t at ht g1
  have hv : verbT.lookup verb = some (kinds.cps.toList.map conv) := hv
  have hk : kinds.length ≤ 4 := hk
  have ht : H1 t = some (.tup [.str verb, .str kinds]) := ht
  walk_at "rds"
  refine ⟨L, _, ((i : Nat) : Int), _, rfl, congrArg V.int hi, sq hL, atI_nat (by rw [List.getElem?_map, g1]; rfl), t, _, rfl, .inl (.inl ht), rfl, _, _, rfl, _, _, rfl, rfl, ?_⟩
  walk_at "rds"
  intro p hp
  have sp := s1.trans (same_upd (o := .lst [.str verb]) hp)
  have hp1 : upd H1 p (.lst [.str verb]) p = some (.lst [.str verb]) := upd_same
  have hp0 : H p = none := by
    cases e : H p with
    | none => rfl
    | some o => rw [s1 _ _ e] at hp; cases hp
  generalize upd H1 p (.lst [.str verb]) = H2 at sp hp1 ⊢
  walk_at "rds"
  intro cl hcl
  have nep : cl ≠ p := fun z => by rw [z, hp1] at hcl; cases hcl
  have sc := sp.trans (same_upd (o := .lst [.int b, .int c, .int (c / 36), .int (c / 720)]) hcl)
  have hp2 := (same_upd (o := .lst [.int b, .int c, .int (c / 36), .int (c / 720)]) hcl) _ _ hp1
  have hcl2 : upd H2 cl (.lst [.int b, .int c, .int (c / 36), .int (c / 720)]) cl = some (.lst [.int b, .int c, .int (c / 36), .int (c / 720)]) := upd_same
  generalize upd H2 cl (.lst [.int b, .int c, .int (c / 36), .int (c / 720)]) = H3 at sc hp2 hcl2 ⊢
  walk_at "rds"
  refine for_it walk_range (Pv := fun i σ H' => ∃ (xs : List V) (y : Option V), σ = [some (.int a), some (.int b), some (.int c), some (.str verb), some (.str kinds), some (.ref p), some (.ref cl), y] ∧ Same H H' ∧ H' cl = some (.lst [.int b, .int c, .int (c / 36), .int (c / 720)]) ∧ H' p = some (.lst (.str verb :: xs)) ∧ xs.length = i ∧ ∀ (j : Nat) (k : Str) (x : V), (kinds.cps.toList.map conv)[j]? = some k → xs[j]? = some x → FitK k x) ⟨[], none, rfl, sc, hcl2, hp2, rfl, fun _ _ _ _ e => by cases e⟩ (fun _ _ _ _ _ => trivial) (fun j x σ H6 H7 hj hp3 hy => ?_) (fun σ H6 hp3 => ?_)
  · obtain ⟨xs, y, rfl, s6, hc6, hp6, lx, fit⟩ := hp3
    obtain ⟨rfl, rfl⟩ := hy
    show gName 7 (V.int (0 + (j : Int))) _ H7 _
    rw [Int.zero_add]
    have hj2 : j < kinds.cps.toList.length := by have := len_tl kinds; omega
    have gd : kinds.cps.toList[j]? = some kinds.cps.toList[j] := List.getElem?_eq_getElem hj2
    have en : Str.ofString "n" = ⟨#[110]⟩ := by decide
    have ea : Str.ofString "a" = ⟨#[97]⟩ := by decide
    have ek : Str.ofString "k" = ⟨#[107]⟩ := by decide
    generalize kinds.cps.toList[j] = d at gd
    have four : ∃ v : Int, [V.int b, .int c, .int (c / 36), .int (c / 720)][j]? = some (.int v) := by
      have : j < 4 := by have := len_tl kinds; omega
      match j, this with
      | 0, _ => exact ⟨_, rfl⟩
      | 1, _ => exact ⟨_, rfl⟩
      | 2, _ => exact ⟨_, rfl⟩
      | 3, _ => exact ⟨_, rfl⟩
    obtain ⟨v, hv4⟩ := four
    have done : ∀ (H8 : Hp) (x : V), Same H7 H8 → FitK (conv d) x → ∃ (xs' : List V) (y : Option V), ([some (.int a), some (.int b), some (.int c), some (.str verb), some (.str kinds), some (.ref p), some (.ref cl), some (.int (j : Nat))] : L2.St) = [some (.int a), some (.int b), some (.int c), some (.str verb), some (.str kinds), some (.ref p), some (.ref cl), y] ∧ Same H (upd H8 p (.lst (.str verb :: xs ++ [x]))) ∧ upd H8 p (.lst (.str verb :: xs ++ [x])) cl = some (.lst [.int b, .int c, .int (c / 36), .int (c / 720)]) ∧ upd H8 p (.lst (.str verb :: xs ++ [x])) p = some (.lst (.str verb :: xs')) ∧ xs'.length = j + 1 ∧ ∀ (j : Nat) (k : Str) (x : V), (kinds.cps.toList.map conv)[j]? = some k → xs'[j]? = some x → FitK k x := fun H8 x s8 fx => by
      refine ⟨xs ++ [x], _, rfl, same_mut (s6.trans s8) hp0, by rw [upd_ne nep]; exact s8 _ _ hc6, upd_same, by simp [lx], fun j' k' x' e1 e2 => ?_⟩
      by_cases hlt : j' < j
      · exact fit j' k' x' e1 (by rw [List.getElem?_append_left (by omega)] at e2; exact e2)
      · rw [List.getElem?_append_right (by omega)] at e2
        have ej : j' = j := by
          have := (List.getElem?_eq_some_iff.mp e2).1
          simp at this; omega
        subst ej
        rw [lx, Nat.sub_self] at e2
        rw [List.getElem?_map, gd] at e1
        obtain rfl : conv d = k' := Option.some.inj e1
        obtain rfl : x = x' := Option.some.inj e2
        exact fx
    walk_at "rds"
    have lsz : (V.str verb :: xs).length < sizeLine := by
      rw [List.length_cons]
      exact sz1000' (by have := len_tl kinds; omega)
    refine ⟨kinds, _, d, rfl, rfl, sz1000 (by omega), atI_nat gd, ?_⟩
    walk_at "rds"
    rw [en, sgnD]
    by_cases hd : d = 110
    · refine ifT (decide_eq_true hd) ?_
      walk_at "rds"
      refine ⟨.inl ⟨rfl, _, sq hp6⟩, ?_⟩
      walk_at "rds"
      refine ⟨cl, _, ((j : Nat) : Int), _, rfl, rfl, sq hc6, atI_nat hv4, ?_⟩
      refine ⟨v, rfl, fun H8 z s8 hz => ?_⟩
      refine ⟨p, _, _, rfl, rfl, s8 _ _ hp6, lsz, ?_⟩
      exact done _ _ s8 (by unfold conv FitK; rw [if_pos hd, if_neg (by decide +kernel)]; exact ⟨z, rfl, hz⟩)
    refine ifF (decide_eq_false hd) ?_
    walk_at "rds"
    refine ⟨kinds, _, d, rfl, rfl, sz1000 (by omega), atI_nat gd, ?_⟩
    walk_at "rds"
    rw [ea, sgnD]
    by_cases hda : d = 97
    · refine ifT (decide_eq_true hda) ?_
      walk_at "rds"
      refine ⟨.inl ⟨rfl, _, sq hp6⟩, ?_⟩
      walk_at "rds"
      refine ⟨cl, _, ((j : Nat) : Int), _, rfl, rfl, sq hc6, atI_nat hv4, ?_⟩
      refine ⟨v, rfl, fun n hn => ?_⟩
      have s8 := Same.refl H7
      refine ⟨p, _, _, rfl, rfl, s8 _ _ hp6, lsz, ?_⟩
      exact done _ _ s8 (by unfold conv FitK; rw [if_neg hd, if_pos hda, if_pos rfl]; exact ⟨n, rfl, hn⟩)
    refine ifF (decide_eq_false hda) ?_
    walk_at "rds"
    refine ⟨kinds, _, d, rfl, rfl, sz1000 (by omega), atI_nat gd, ?_⟩
    walk_at "rds"
    rw [ek, sgnD]
    by_cases hdk : d = 107
    · refine ifT (decide_eq_true hdk) ?_
      walk_at "rds"
      refine ⟨.inl ⟨rfl, _, sq hp6⟩, ?_⟩
      walk_at "rds"
      refine ⟨cl, _, ((j : Nat) : Int), _, rfl, rfl, sq hc6, atI_nat hv4, ?_⟩
      refine ⟨v, rfl, fun H8 z s8 hz => ?_⟩
      refine ⟨p, _, _, rfl, rfl, s8 _ _ hp6, lsz, ?_⟩
      exact done _ _ s8 (by unfold conv FitK; rw [if_neg hd, if_neg hda, if_pos hdk, if_neg (by decide +kernel)]; exact ⟨z, rfl, hz⟩)
    refine ifF (decide_eq_false hdk) ?_
    walk_at "rds"
    refine ⟨.inl ⟨rfl, _, sq hp6⟩, ?_⟩
    walk_at "rds"
    refine ⟨cl, _, ((j : Nat) : Int), _, rfl, rfl, sq hc6, atI_nat hv4, ?_⟩
    refine ⟨v, rfl, fun H8 z s8 hz => ?_⟩
    refine ⟨p, _, _, rfl, rfl, s8 _ _ hp6, lsz, ?_⟩
    exact done _ _ s8 (by unfold conv FitK; rw [if_neg hd, if_neg hda, if_neg hdk, if_neg (by decide +kernel)]; exact ⟨z, rfl, hz⟩)
  · obtain ⟨xs, y, rfl, s6, hc6, hp6, lx, fit⟩ := hp3
    walk_at "rds"
    refine ⟨p, _, rfl, .inl ⟨sq hp6, fun t' ht' => ?_⟩⟩
    have h0 : H t' = none := by
      cases e : H t' with
      | none => rfl
      | some o => rw [s6 _ _ e] at ht'; cases ht'
    exact q _ t' _ (s6.trans (same_upd ht')) h0 upd_same ⟨verb, _, xs, rfl, hv, by rw [List.length_map, len_tl, lx]; omega, fit⟩
end

section
variable {P : Program} {w : World} {K : PySem.W.Frag} {mg : Str → Option Value} {base : Heap}
theorem verbs_free {C_BadCommand : Addr} {C_VERBS : Addr} (T : Txt K mg w C_BadCommand C_VERBS) {z : Str} (h : verbT.lookup z = none) : PySem.W.nsIn K C_VERBS z = some none := by
  refine T.kn_VERBS z ?_
  refine Bool.eq_false_iff.mpr fun m => ?_
  have m := List.contains_iff_mem.mp m
  have key : ∀ x ∈ (["open", "close", "issue", "burn", "pay", "balance", "atleast", "hold", "settle", "release", "put", "get", "drop", "swap", "same", "keys"] : List Str), (verbT.lookup x).isSome = true := by decide +kernel
  have := key z m
  rw [h] at this
  cases this
abbrev Bc (c : Nat) : Prop := prC c = true ∨ c = 9 ∨ c = 10
abbrev WOk (l : List Nat) : Prop := l.length ≤ 60 ∧ ∀ c ∈ l, Bc c
theorem c__law_odd {C_BadCommand : Addr} {C_VERBS : Addr} (T : Txt K mg w C_BadCommand C_VERBS) : Cal P w K mg base 1 "_law_odd" (fun vs H Q _ => ∃ (c : Int), vs = [.int c] ∧ ∀ H' (z : Str), Same H H' → WOk z.cps.toList → Q (.str z) H') [] := by
  refine cal T.d__law_odd sc__law_odd (fun vs H Q E h => ?_) (fun f cdv A' outer s H vs Q E hr h => ?_)
  · obtain ⟨c, rfl, _⟩ := h; rfl
  obtain ⟨c, rfl, q⟩ := h
  refine ⟨_, (pss_cons (ps_set (i := 1) sc__law_odd.nd rfl (Or.inl rfl) (pe_lst (pa_cons pe_str (pa_cons pe_str (pa_cons pe_str (pa_cons pe_str (pa_cons pe_str (pa_cons pe_str (pa_cons (pe_op op_mul_str pe_str pe_int) (pa_cons (pe_op op_mul_str pe_str pe_int) (pa_cons (pe_op op_mul_str pe_str pe_int) (pa_cons (pe_op op_mul_str pe_str pe_int) (pa_cons pe_str (pa_cons pe_str (pa_cons pe_str (pa_cons pe_str pa_nil))))))))))))))))
      (pss_one (ps_ret (pe_ix (kixl (K := K)) (pv 1) (pe_op op_mod (pe_callTy call_int1 (by rfl) T.z_int (by decide +kernel) (pa_cons (pv 0) pa_nil)) pe_int) (fun _ _ => rfl))))), ?_⟩
  walk_at "rds"
  intro p hp
  walk_at "rds"
  obtain ⟨v, hv, hat⟩ := atI_lt (xs := [V.str (Str.ofString "Ann"), .str (Str.ofString "ann1"), .str (Str.ofString "007"), .str (Str.ofString "+1"), .str (Str.ofString "-1"), .str (Str.ofString "k_1"), .str (Txt.mul (Str.ofString "a") 13), .str (Txt.mul (Str.ofString "k") 21), .str (Txt.mul (Str.ofString "v") 41), .str (Txt.mul (Str.ofString "9") 13), .str (Str.ofString "0"), .str (Str.ofString "1"), .str (Str.ofString "a.b"), .str (Str.ofString "#")]) (i := c % 14) (by omega) (by show c % 14 < 14; omega)
  have : ∃ z : Str, v = .str z ∧ WOk z.cps.toList := by
    simp only [List.mem_cons, List.not_mem_nil, or_false] at hv
    rcases hv with rfl | rfl | rfl | rfl | rfl | rfl | rfl | rfl | rfl | rfl | rfl | rfl | rfl | rfl <;> exact ⟨_, rfl, by decide +kernel⟩
  obtain ⟨z, rfl, hz⟩ := this
  refine ⟨p, _, _, _, rfl, rfl, sq upd_same, hat, ?_⟩
  exact q _ _ (same_upd hp) hz
theorem cutV_map {α : Type} (f : α → V) (xs : List α) (lo hi : Option Int) : ∃ ys : List α, cutV (xs.map f) lo hi = ys.map f ∧ ys.length ≤ xs.length ∧ (∀ y ∈ ys, y ∈ xs) := by
  refine ⟨(xs.drop (HT.sIx xs.length 0 lo)).take (HT.sIx xs.length xs.length hi - HT.sIx xs.length 0 lo), ?_, ?_, ?_⟩
  · unfold cutV
    rw [List.length_map, List.map_take, List.map_drop]
  · rw [List.length_take, List.length_drop]; omega
  · intro y hy
    exact List.mem_of_mem_drop (List.mem_of_mem_take hy)
theorem sl_w {K : PySem.W.Frag} {H : Hp} {a : Addr} {ws : List (List Nat)} {lo hi : Option Int} {Q : VK} (ha : H a = some (.lst (ws.map wrd))) (q : ∀ H' p (us : List (List Nat)), Same H H' → H p = none → H' p = some (.lst (us.map wrd)) → us.length ≤ ws.length → (∀ l ∈ us, l ∈ ws) → Q (.ref p) H') : rSlL K (.ref a) lo hi H Q := by
  obtain ⟨us, e, hl, hm⟩ := cutV_map wrd ws lo hi
  refine ⟨a, _, rfl, sq ha, fun p hp => ?_⟩
  rw [e]
  exact q _ p us (same_upd hp) hp upd_same hl hm
theorem cat_w {H : Hp} {x y : Addr} {us vs : List (List Nat)} {Q : VK} (hx : H x = some (.lst (us.map wrd))) (hy : H y = some (.lst (vs.map wrd))) (hl : us.length + vs.length ≤ 1000) (q : ∀ H' p, Same H H' → H p = none → H' p = some (.lst ((us ++ vs).map wrd)) → Q (.ref p) H') : rCat (.ref x) (.ref y) H Q := by
  refine ⟨x, y, _, _, rfl, rfl, hx, hy, by rw [List.length_map, List.length_map]; exact sz1000' (by omega) |> Nat.le_of_lt, fun p hp => ?_⟩
  rw [← List.map_append]
  exact q _ p (same_upd hp) hp upd_same
theorem mem_app {α : Type} {P : α → Prop} {us vs : List α} (h1 : ∀ x ∈ us, P x) (h2 : ∀ x ∈ vs, P x) : ∀ x ∈ us ++ vs, P x := fun x m => (List.mem_append.mp m).elim (h1 x) (h2 x)
def spSpo : Sp := fun vs H Q _ => ∃ (a : Addr) (c : Int) (ws : List (List Nat)), vs = [.ref a, .int c] ∧ H a = some (.lst (ws.map wrd)) ∧ 1 ≤ ws.length ∧ ws.length ≤ 6 ∧ (∀ l ∈ ws, l.length ≤ 50 ∧ ∀ c ∈ l, Bc c) ∧ ∀ H' b (us : List (List Nat)), Same H H' → H b = none → H' b = some (.lst (us.map wrd)) → us.length ≤ 13 → (∀ l ∈ us, WOk l) → Q (.ref b) H'
theorem c__law_spoilt {C_BadCommand : Addr} {C_VERBS : Addr} (T : Txt K mg w C_BadCommand C_VERBS) : Cal P w K mg base 2 "_law_spoilt" spSpo [] := by
  have c__law_odd := c__law_odd (P := P) (w := w) (base := base) T
  refine cal T.d__law_spoilt sc__law_spoilt (fun vs H Q E h => ?_) (fun f cdv A' outer s H vs Q E hr h => ?_)
  · obtain ⟨a, c, ws, rfl, _⟩ := h; rfl
  obtain ⟨a, c, ws, rfl, ha, h1, h6, hw, q⟩ := h
  refine ⟨_, (pss_cons (ps_set (i := 2) sc__law_spoilt.nd rfl (Or.inl rfl) (pe_op op_mod (pe_callTy call_int1 (by rfl) T.z_int (by decide +kernel) (pa_cons (pv 1) pa_nil)) pe_int))
      (pss_cons (ps_set (i := 3) sc__law_spoilt.nd rfl (Or.inl rfl) (pe_op op_mod (pe_op op_fdiv (pv 1) pe_int) (pe_callB (klen (K := K)) (by rfl) T.z_len (by decide +kernel) (pa_cons (pv 0) pa_nil))))
      (pss_cons (ps_if (pt_cmpR op_eq (pv 2) pe_int (nomark _)) (pss_one (ps_ret (pe_op op_cat (pe_slice (ksll (K := K)) (pe_slice (ksll (K := K)) (pe_lst (pa_cons pe_str (pa_cons pe_str (pa_cons pe_str (pa_cons pe_str pa_nil))))) (po_some (pe_op op_mod (pe_op op_fdiv (pv 1) pe_int) pe_int)) po_none) po_none (po_some pe_int)) (pe_slice (ksll (K := K)) (pv 0) (po_some pe_int) po_none)))) pss_nil)
      (pss_cons (ps_if (pt_cmpR op_eq (pv 2) pe_int (nomark _)) (pss_one (ps_ret (pe_op op_cat (pe_slice (ksll (K := K)) (pv 0) po_none (po_some (pv 3))) (pe_slice (ksll (K := K)) (pv 0) (po_some (pe_op op_add (pv 3) pe_int)) po_none)))) pss_nil)
      (pss_cons (ps_if (pt_cmpR op_eq (pv 2) pe_int (nomark _)) (pss_one (ps_ret (pe_op op_cat (pe_op op_cat (pe_slice (ksll (K := K)) (pv 0) po_none (po_some (pv 3))) (pe_lst (pa_cons (pe_c c__law_odd hr (by decide) (by rfl) (pa_cons (pe_op op_fdiv (pv 1) pe_int) pa_nil)) pa_nil))) (pe_slice (ksll (K := K)) (pv 0) (po_some (pv 3)) po_none)))) pss_nil)
      (pss_cons (ps_if (pt_cmpR op_eq (pv 2) pe_int (nomark _)) (pss_one (ps_ret (pe_op op_cat (pe_op op_cat (pe_slice (ksll (K := K)) (pv 0) po_none (po_some (pv 3))) (pe_lst (pa_cons (pe_c c__law_odd hr (by decide) (by rfl) (pa_cons (pe_op op_fdiv (pv 1) pe_int) pa_nil)) pa_nil))) (pe_slice (ksll (K := K)) (pv 0) (po_some (pe_op op_add (pv 3) pe_int)) po_none)))) pss_nil)
      (pss_cons (ps_if (pt_cmpR op_eq (pv 2) pe_int (nomark _)) (pss_one (ps_ret (pe_op op_cat (pe_op op_cat (pe_slice (ksll (K := K)) (pv 0) po_none (po_some (pv 3))) (pe_lst (pa_cons pe_str pa_nil))) (pe_slice (ksll (K := K)) (pv 0) (po_some (pv 3)) po_none)))) pss_nil)
      (pss_cons (ps_if (pt_cmpR op_eq (pv 2) pe_int (nomark _)) (pss_one (ps_ret (pe_op op_cat (pe_op op_cat (pe_slice (ksll (K := K)) (pv 0) po_none (po_some (pv 3))) (pe_lst (pa_cons (pe_op op_add_str (pe_ix (kixl (K := K)) (pv 0) (pv 3) (fun _ _ => rfl)) (pe_ix (kixl (K := K)) (pe_lst (pa_cons pe_str (pa_cons pe_str pa_nil))) (pe_op op_mod (pe_op op_fdiv (pv 1) pe_int) pe_int) (fun _ _ => rfl))) pa_nil))) (pe_slice (ksll (K := K)) (pv 0) (po_some (pe_op op_add (pv 3) pe_int)) po_none)))) pss_nil)
      (pss_one (ps_ret (pe_lst (pa_cons pe_str pa_nil)))))))))))), ?_⟩
  walk_at "rds"
  refine ⟨a, _, rfl, .inl (sq ha), ?_⟩
  rw [List.length_map]
  walk_at "rds"
  obtain ⟨n, hn⟩ := Int.eq_ofNat_of_zero_le (Int.emod_nonneg (c / 7) (show (ws.length : Int) ≠ 0 by omega))
  have hn2 : n < ws.length := by have := Int.emod_lt_of_pos (c / 7) (show (0 : Int) < ws.length by omega); omega
  have sub : ∀ {us : List (List Nat)}, (∀ l ∈ us, l ∈ ws) → ∀ l ∈ us, WOk l := fun h l m => ⟨by have := (hw l (h l m)).1; omega, (hw l (h l m)).2⟩
  refine ite2 (fun _ => ?_) (fun _ => ?_)
  · walk_at "rds"
    intro p1 n1
    have s1 := same_upd (o := .lst [V.str (Str.ofString "shut"), .str (Str.ofString "Open"), .str (Str.ofString "pay"), .str (Str.ofString "get")]) n1
    have h1' : upd H p1 (.lst [V.str (Str.ofString "shut"), .str (Str.ofString "Open"), .str (Str.ofString "pay"), .str (Str.ofString "get")]) p1 = some (.lst (([Str.ofString "shut", Str.ofString "Open", Str.ofString "pay", Str.ofString "get"].map fun z => z.cps.toList).map wrd)) := by
      rw [upd_same]; simp only [List.map, wrd_str]
    have w4 : ∀ l ∈ [Str.ofString "shut", Str.ofString "Open", Str.ofString "pay", Str.ofString "get"].map (fun z => z.cps.toList), WOk l := by decide +kernel
    have l4 : ([Str.ofString "shut", Str.ofString "Open", Str.ofString "pay", Str.ofString "get"].map (fun z => z.cps.toList)).length = 4 := rfl
    generalize upd H p1 (.lst [V.str (Str.ofString "shut"), .str (Str.ofString "Open"), .str (Str.ofString "pay"), .str (Str.ofString "get")]) = G1 at s1 h1' ⊢
    generalize [Str.ofString "shut", Str.ofString "Open", Str.ofString "pay", Str.ofString "get"].map (fun z => z.cps.toList) = w0 at h1' w4 l4
    walk_at "rds"
    (try delta tNoPart)
    refine sl_w h1' fun G2 p2 u2 s2 n2 h2 l2 m2 => ?_
    walk_at "rds"
    (try delta tNoPart)
    refine sl_w h2 fun G3 p3 u3 s3 n3 h3 l3 m3 => ?_
    walk_at "rds"
    have s123 := ((s1.trans s2).trans s3)
    (try delta tNoPart)
    refine sl_w (s123 _ _ ha) fun G4 p4 u4 s4 n4 h4 l4' m4 => ?_
    walk_at "rds"
    refine cat_w (s4 _ _ h3) h4 (by omega) fun G5 p5 s5 n5 h5 => ?_
    exact q G5 p5 _ ((s123.trans s4).trans s5) (same_none (s123.trans s4) n5) h5 (by rw [List.length_append]; omega) (mem_app (fun l m => w4 l (m2 l (m3 l m))) (sub m4))
  walk_at "rds"
  refine ite2 (fun _ => ?_) (fun _ => ?_)
  · walk_at "rds"
    (try delta tNoPart)
    refine sl_w ha fun G2 p2 u2 s2 n2 h2 l2 m2 => ?_
    walk_at "rds"
    (try delta tNoPart)
    refine sl_w (s2 _ _ ha) fun G4 p4 u4 s4 n4 h4 l4' m4 => ?_
    walk_at "rds"
    refine cat_w (s4 _ _ h2) h4 (by omega) fun G5 p5 s5 n5 h5 => ?_
    exact q G5 p5 _ ((s2.trans s4).trans s5) (same_none (s2.trans s4) n5) h5 (by rw [List.length_append]; omega) (mem_app (sub m2) (sub m4))
  walk_at "rds"
  refine ite2 (fun _ => ?_) (fun _ => ?_)
  · walk_at "rds"
    (try delta tNoPart)
    refine sl_w ha fun G2 p2 u2 s2 n2 h2 l2 m2 => ?_
    walk_at "rds"
    intro G3 z s3 hz
    walk_at "rds"
    intro p3 n3
    have s3' := s3.trans (same_upd (o := .lst [V.str z]) n3)
    have h3 : upd G3 p3 (.lst [V.str z]) p3 = some (.lst ([z.cps.toList].map wrd)) := by rw [upd_same]; simp only [List.map, wrd_str]
    generalize upd G3 p3 (.lst [V.str z]) = G4 at s3' h3 ⊢
    walk_at "rds"
    refine cat_w (s3' _ _ h2) h3 (by rw [List.length_singleton]; omega) fun G5 p5 s5 n5 h5 => ?_
    walk_at "rds"
    have s25 := (s2.trans s3').trans s5
    (try delta tNoPart)
    refine sl_w (s25 _ _ ha) fun G6 p6 u6 s6 n6 h6 l6 m6 => ?_
    walk_at "rds"
    refine cat_w (s6 _ _ h5) h6 (by rw [List.length_append, List.length_singleton]; omega) fun G7 p7 s7 n7 h7 => ?_
    have w1 : ∀ l ∈ [z.cps.toList], WOk l := fun l m => by rw [List.mem_singleton.mp m]; exact hz
    exact q G7 p7 _ ((s25.trans s6).trans s7) (same_none (s25.trans s6) n7) h7 (by rw [List.length_append, List.length_append, List.length_singleton]; omega) (mem_app (mem_app (sub m2) w1) (sub m6))
  walk_at "rds"
  refine ite2 (fun _ => ?_) (fun _ => ?_)
  · walk_at "rds"
    (try delta tNoPart)
    refine sl_w ha fun G2 p2 u2 s2 n2 h2 l2 m2 => ?_
    walk_at "rds"
    intro G3 z s3 hz
    walk_at "rds"
    intro p3 n3
    have s3' := s3.trans (same_upd (o := .lst [V.str z]) n3)
    have h3 : upd G3 p3 (.lst [V.str z]) p3 = some (.lst ([z.cps.toList].map wrd)) := by rw [upd_same]; simp only [List.map, wrd_str]
    generalize upd G3 p3 (.lst [V.str z]) = G4 at s3' h3 ⊢
    walk_at "rds"
    refine cat_w (s3' _ _ h2) h3 (by rw [List.length_singleton]; omega) fun G5 p5 s5 n5 h5 => ?_
    walk_at "rds"
    have s25 := (s2.trans s3').trans s5
    (try delta tNoPart)
    refine sl_w (s25 _ _ ha) fun G6 p6 u6 s6 n6 h6 l6 m6 => ?_
    walk_at "rds"
    refine cat_w (s6 _ _ h5) h6 (by rw [List.length_append, List.length_singleton]; omega) fun G7 p7 s7 n7 h7 => ?_
    have w1 : ∀ l ∈ [z.cps.toList], WOk l := fun l m => by rw [List.mem_singleton.mp m]; exact hz
    exact q G7 p7 _ ((s25.trans s6).trans s7) (same_none (s25.trans s6) n7) h7 (by rw [List.length_append, List.length_append, List.length_singleton]; omega) (mem_app (mem_app (sub m2) w1) (sub m6))
  walk_at "rds"
  refine ite2 (fun _ => ?_) (fun _ => ?_)
  · walk_at "rds"
    (try delta tNoPart)
    refine sl_w ha fun G2 p2 u2 s2 n2 h2 l2 m2 => ?_
    walk_at "rds"
    intro p3 n3
    have s3' := same_upd (o := .lst [V.str (Str.ofString "")]) n3
    have h3 : upd G2 p3 (.lst [V.str (Str.ofString "")]) p3 = some (.lst ([(Str.ofString "").cps.toList].map wrd)) := by rw [upd_same]; simp only [List.map, wrd_str]
    generalize upd G2 p3 (.lst [V.str (Str.ofString "")]) = G4 at s3' h3 ⊢
    walk_at "rds"
    refine cat_w (s3' _ _ h2) h3 (by rw [List.length_singleton]; omega) fun G5 p5 s5 n5 h5 => ?_
    walk_at "rds"
    have s25 := (s2.trans s3').trans s5
    (try delta tNoPart)
    refine sl_w (s25 _ _ ha) fun G6 p6 u6 s6 n6 h6 l6 m6 => ?_
    walk_at "rds"
    refine cat_w (s6 _ _ h5) h6 (by rw [List.length_append, List.length_singleton]; omega) fun G7 p7 s7 n7 h7 => ?_
    have w1 : ∀ l ∈ [(Str.ofString "").cps.toList], WOk l := by decide +kernel
    exact q G7 p7 _ ((s25.trans s6).trans s7) (same_none (s25.trans s6) n7) h7 (by rw [List.length_append, List.length_append, List.length_singleton]; omega) (mem_app (mem_app (sub m2) w1) (sub m6))
  walk_at "rds"
  refine ite2 (fun _ => ?_) (fun _ => ?_)
  · walk_at "rds"
    (try delta tNoPart)
    refine sl_w ha fun G2 p2 u2 s2 n2 h2 l2 m2 => ?_
    walk_at "rds"
    have gn : ws[n]? = some ws[n] := List.getElem?_eq_getElem hn2
    have wn := hw ws[n] (List.getElem_mem hn2)
    generalize ws[n] = lw at gn wn
    refine ⟨a, _, ((n : Nat) : Int), _, rfl, congrArg V.int hn, sq (s2 _ _ ha), atI_nat (by rw [List.getElem?_map, gn]; rfl), ?_⟩
    walk_at "rds"
    intro p0 n0
    have s20 := s2.trans (same_upd (o := .lst [V.str (Str.ofString "\n"), .str (Str.ofString "\t")]) n0)
    have h20 := (same_upd (o := .lst [V.str (Str.ofString "\n"), .str (Str.ofString "\t")]) n0) _ _ h2
    have hl0 : upd G2 p0 (.lst [V.str (Str.ofString "\n"), .str (Str.ofString "\t")]) p0 = some (.lst [V.str (Str.ofString "\n"), .str (Str.ofString "\t")]) := upd_same
    generalize upd G2 p0 (.lst [V.str (Str.ofString "\n"), .str (Str.ofString "\t")]) = G3 at s20 h20 hl0 ⊢
    walk_at "rds"
    obtain ⟨v, hv, hat⟩ := atI_lt (xs := [V.str (Str.ofString "\n"), .str (Str.ofString "\t")]) (i := c / 60 % 2) (by omega) (by show c / 60 % 2 < 2; omega)
    have : ∃ z : Str, v = .str z ∧ z.length = 1 ∧ ∀ c ∈ z.cps.toList, Bc c := by
      simp only [List.mem_cons, List.not_mem_nil, or_false] at hv
      rcases hv with rfl | rfl <;> exact ⟨_, rfl, rfl, by decide +kernel⟩
    obtain ⟨z, rfl, hz1, hz⟩ := this
    refine ⟨p0, _, _, _, rfl, rfl, sq hl0, hat, ?_⟩
    walk_at "rds"
    refine ⟨by rw [wl]; exact sz1000 (by omega), ?_⟩
    walk_at "rds"
    intro p3 n3
    have ez : ∃ l', (⟨lw.toArray⟩ : Str) ++ z = ⟨l'.toArray⟩ ∧ l' = lw ++ z.cps.toList := ⟨lw ++ z.cps.toList, str_eq_l.mpr (by rw [app_tl]), rfl⟩
    obtain ⟨l', ez, el'⟩ := ez
    rw [ez]
    have wl' : ∀ l ∈ [l'], WOk l := fun l m => by
      rw [List.mem_singleton.mp m, el']
      have := len_tl z
      exact ⟨by rw [List.length_append]; omega, mem_app wn.2 hz⟩
    have s3' := s20.trans (same_upd (o := .lst [V.str ⟨l'.toArray⟩]) n3)
    have h3 : upd G3 p3 (.lst [V.str ⟨l'.toArray⟩]) p3 = some (.lst ([l'].map wrd)) := upd_same
    have h21 := (same_upd (o := .lst [V.str ⟨l'.toArray⟩]) n3) _ _ h20
    generalize upd G3 p3 (.lst [V.str ⟨l'.toArray⟩]) = G4 at s3' h3 h21 ⊢
    walk_at "rds"
    refine cat_w h21 h3 (by rw [List.length_singleton]; omega) fun G5 p5 s5 n5 h5 => ?_
    walk_at "rds"
    have s25 := s3'.trans s5
    (try delta tNoPart)
    refine sl_w (s25 _ _ ha) fun G6 p6 u6 s6 n6 h6 l6 m6 => ?_
    walk_at "rds"
    refine cat_w (s6 _ _ h5) h6 (by rw [List.length_append, List.length_singleton]; omega) fun G7 p7 s7 n7 h7 => ?_
    exact q G7 p7 _ ((s25.trans s6).trans s7) (same_none (s25.trans s6) n7) h7 (by rw [List.length_append, List.length_append, List.length_singleton]; omega) (mem_app (mem_app (sub m2) wl') (sub m6))
  walk_at "rds"
  intro p3 n3
  have h3 : upd H p3 (.lst [V.str (Str.ofString "")]) p3 = some (.lst ([(Str.ofString "").cps.toList].map wrd)) := by rw [upd_same]; simp only [List.map, wrd_str]
  exact q _ p3 _ (same_upd n3) n3 h3 (by decide) (by decide +kernel)
end

section
variable {P : Program} {w : World} {K : PySem.W.Frag} {mg : Str → Option Value} {base : Heap}
def RowsW (H : Hp) (p : Addr) (wss : List (List (List Nat))) : Prop := ∃ as : List Addr, H p = some (.lst (as.map V.ref)) ∧ as.length = wss.length ∧ ∀ (i : Nat) (a : Addr) (ws : List (List Nat)), as[i]? = some a → wss[i]? = some ws → a ≠ p ∧ H a = some (.lst (ws.map wrd))
theorem ixN_in {l i : Nat} (h : i < l) : ixN l (i : Int) = some i := by
  unfold ixN
  rw [if_pos (by omega), if_pos (by omega)]; rfl
theorem prC_Bc {c : Nat} (h : prC c = true) : Bc c := .inl h
theorem good_w {xs : List V} (h : Good xs) : ∀ x ∈ xs, (sTx x).length ≤ 50 ∧ ∀ c ∈ sTx x, Bc c := by
  intro x m
  refine ⟨?_, fun c mc => .inl ((good_wd h x m).1.2.2.2 c mc)⟩
  obtain ⟨v, ks, args, rfl, hl, len, fit⟩ := h
  rcases List.mem_cons.mp m with rfl | m
  · have key : ∀ x ∈ verbT, x.1.cps.toList.length ≤ 50 := by decide +kernel
    exact key _ (lookup_mem hl)
  · obtain ⟨i, hi⟩ := List.getElem?_of_mem m
    have li := (List.getElem?_eq_some_iff.mp hi).1
    have f := fit i ks[i] x (List.getElem?_eq_getElem (by omega)) hi
    unfold FitK at f
    split at f
    · obtain ⟨n, rfl, hn⟩ := f
      rw [sTx_nat]
      have := TL.numL_len (n := n) (k := 12) (by decide) hn
      omega
    · obtain ⟨z, rfl, hz⟩ := f
      have := (wd_kind hz).2
      show z.cps.toList.length ≤ 50
      omega
theorem good_len7 {xs : List V} (h : Good xs) : 1 ≤ xs.length ∧ xs.length ≤ 6 := by
  obtain ⟨v, ks, args, rfl, hl, len, _⟩ := h
  have key : ∀ x ∈ verbT, x.2.length ≤ 5 := by decide +kernel
  have : ks.length ≤ 5 := key _ (lookup_mem hl)
  rw [List.length_cons]
  omega
def spBuilt (K : PySem.W.Frag) : Sp := fun vs H Q _ => ∃ (a : Addr) (ns : List Int), vs = [.ref a] ∧ SqL K H a (ns.map V.int) ∧ ∀ H' (z : Str), Same H H' → z.length ≤ 10000 → (∀ c ∈ z.cps.toList, Bc c) → Q (.str z) H'
theorem c__law_built {C_BadCommand : Addr} {C_VERBS : Addr} (T : Txt K mg w C_BadCommand C_VERBS) : Cal P w K mg base 4 "_law_built" (spBuilt K) [] := by
  have c__law_cell := c__law_cell (P := P) (w := w) (K := K) (base := base) T
  have c__law_statement := c__law_statement (P := P) (w := w) (base := base) T
  have c__law_spoilt := c__law_spoilt (P := P) (w := w) (base := base) T
  refine cal T.d__law_built sc__law_built (fun vs H Q E h => ?_) (fun f cdv A' outer s H vs Q E hr h => ?_)
  · obtain ⟨a, ns, rfl, _⟩ := h; rfl
  obtain ⟨a, ns, rfl, hS, q⟩ := h
  refine ⟨_, (pss_cons (ps_set (i := 1) sc__law_built.nd rfl (Or.inl rfl) (pe_lst pa_nil))
      (pss_cons (ps_for PassesOwn.never rfl (pi_range1 (by rfl) T.z_range (pa_cons (pe_op op_add pe_int (pe_op op_mod (pe_c c__law_cell hr (by decide) (by rfl) (pa_cons (pv 0) (pa_cons pe_int pa_nil))) pe_int)) pa_nil)) (pg_name (i := 2) sc__law_built.nd rfl (Or.inl rfl)) (pss_cons (ps_set (i := 3) sc__law_built.nd rfl (Or.inl rfl) (pe_op op_add pe_int (pe_op op_mul pe_int (pv 2))))
      (pss_cons (ps_set (i := 4) sc__law_built.nd rfl (Or.inl rfl) (pe_c c__law_statement hr (by decide) (by rfl) (pa_cons (pe_c c__law_cell hr (by decide) (by rfl) (pa_cons (pv 0) (pa_cons (pv 3) pa_nil))) (pa_cons (pe_c c__law_cell hr (by decide) (by rfl) (pa_cons (pv 0) (pa_cons (pe_op op_add (pv 3) pe_int) pa_nil))) (pa_cons (pe_c c__law_cell hr (by decide) (by rfl) (pa_cons (pv 0) (pa_cons (pe_op op_add (pv 3) pe_int) pa_nil))) pa_nil)))))
      (pss_one (ps_expr (pe_bm PySem.F.plainAttrs_list PySem.F.slot_list_append PySem.F.type_list_append mt_append (pv 1) (pa_cons (pe_lc (own := [("part", 5)]) (g := gName 5) (by rfl) sc__law_built.nd (pi_tup (pv 4)) (blkOk_by (own := [("part", 5)]) (N := ["script", "rows", "k", "at", "statement", "part", "words"]) (sc := defScope s__law_built) (by decide +kernel)) (fun _ _ _ _ _ => pg_name (i := 5) sc__law_built.nd rfl (Or.inl rfl)) (fun _ _ _ _ _ => pts_nil) (fun _ _ _ _ _ => (pe_callTy call_strM (by rfl) T.z_str (by decide +kernel) (pa_cons (pv 5) pa_nil)))) pa_nil)))))))
      (pss_cut (ps_if (pt_cmpR op_eq (pe_op op_mod (pe_c c__law_cell hr (by decide) (by rfl) (pa_cons (pv 0) (pa_cons pe_int pa_nil))) pe_int) pe_int (nomark _)) (pss_cons (ps_set (i := 3) sc__law_built.nd rfl (Or.inl rfl) (pe_op op_mod (pe_op op_fdiv (pe_c c__law_cell hr (by decide) (by rfl) (pa_cons (pv 0) (pa_cons pe_int pa_nil))) pe_int) (pe_callB (klen (K := K)) (by rfl) T.z_len (by decide +kernel) (pa_cons (pv 1) pa_nil))))
      (pss_one (ps_asg (pe_c c__law_spoilt hr (by decide) (by rfl) (pa_cons (pe_ix (kixl (K := K)) (pv 1) (pv 3) (fun _ _ => rfl)) (pa_cons (pe_c c__law_cell hr (by decide) (by rfl) (pa_cons (pv 0) (pa_cons pe_int pa_nil))) pa_nil))) (pg_sub (pv 1) (pv 3) set_list)))) pss_nil)
      (pss_one (ps_ret (pe_join pe_str (pe_lc (own := [("words", 6)]) (g := gName 6) (by rfl) sc__law_built.nd (pi_list (pv 1)) (blkOk_by (own := [("words", 6)]) (N := ["script", "rows", "k", "at", "statement", "part", "words"]) (sc := defScope s__law_built) (by decide +kernel)) (fun _ _ _ _ _ => pg_name (i := 6) sc__law_built.nd rfl (Or.inl rfl)) (fun _ _ _ _ _ => pts_nil) (fun _ _ _ _ _ => (kjoin (K := K) (by rfl) pe_str (pv 6)))))))))), ?_⟩
  have sl := sizeLine_eq
  walk_at "rds"
  intro p hp
  have sp := same_upd (o := .lst []) hp
  have hp1 : upd H p (.lst []) p = some (.lst []) := upd_same
  generalize upd H p (.lst []) = H1 at sp hp1 ⊢
  walk_at "rds"
  refine ⟨a, ns, 0, rfl, sp.seq hS, ?_⟩
  walk_at "rds"
  obtain ⟨m, hm⟩ := Int.eq_ofNat_of_zero_le (show 0 ≤ 1 + ns.getD 0 0 % 7 by omega)
  have m10 : 1 ≤ m ∧ m ≤ 7 := by omega
  rw [show (1 + ns.getD 0 0 % 7).toNat = m by omega]
  refine for_it walk_range (Pv := fun i σ H' => ∃ (y2 y3 y4 : Option V) (wss : List (List (List Nat))), σ = [some (.ref a), some (.ref p), y2, y3, y4, none, none] ∧ Same H H' ∧ RowsW H' p wss ∧ (∀ ws ∈ wss, 1 ≤ ws.length ∧ ws.length ≤ 6 ∧ ∀ l ∈ ws, l.length ≤ 50 ∧ ∀ c ∈ l, Bc c) ∧ wss.length = i) ⟨none, none, none, [], rfl, sp, ⟨[], hp1, rfl, fun _ _ _ e => by cases e⟩, (fun _ m => nomatch m), rfl⟩ (fun _ _ _ _ _ => trivial) (fun i x σ H6 H7 hi hp3 hy => ?_) (fun σ H6 hp3 => ?_)
  · obtain ⟨y2, y3, y4, wss, rfl, s6, hr, hg, lx⟩ := hp3
    obtain ⟨rfl, rfl⟩ := hy
    walk_at "rds"
    have ek0 : V.int (3 + 3 * (0 + (i : Int))) = V.int ((3 + 3 * i : Nat) : Int) := congrArg V.int (by omega)
    have ek : ∀ d : Nat, V.int (3 + 3 * (0 + (i : Int)) + (d : Int)) = V.int ((3 + 3 * i + d : Nat) : Int) := fun d => congrArg V.int (by omega)
    refine ⟨a, ns, 3 + 3 * i, by rw [← ek0]; rfl, s6.seq hS, ?_⟩
    walk_at "rds"
    refine ⟨a, ns, 3 + 3 * i + 1, by rw [← ek 1]; rfl, s6.seq hS, ?_⟩
    walk_at "rds"
    refine ⟨a, ns, 3 + 3 * i + 2, by rw [← ek 2]; rfl, s6.seq hS, ?_⟩
    walk_at "rds"
    delta tNil
    refine ⟨_, _, _, rfl, fun H8 t xs s8 n8 h8 g8 => ?_⟩
    obtain ⟨as, hp7, la, hx⟩ := hr
    walk_at "rds"
    refine ⟨.inl ⟨rfl, _, sq (s8 _ _ hp7)⟩, ?_⟩
    walk_at "rds"
    refine ⟨⟨_, .inl (.inl h8)⟩, fun D hD => ?_⟩
    obtain ⟨g1, g6⟩ := good_len7 g8
    refine lc_it (walk_tup (K := K) (a := t) (xs := xs)) (Pv := fun k H' => Same H8 H' ∧ H' D = some (.lst ((xs.take k).map fun x => wrd (sTx x)))) ⟨same_upd hD, upd_same⟩ (fun _ _ _ h => .inl (.inl (h.1 _ _ h8))) (fun k x H9 Ha hk hp hy => ?_) (fun H9 hp => ?_)
    · obtain ⟨s9, hD9⟩ := hp
      obtain ⟨rfl, hx9⟩ := hy
      have e : (xs.take (k + 1)).map (fun x => wrd (sTx x)) = (xs.take k).map (fun x => wrd (sTx x)) ++ [wrd (sTx x)] := by rw [List.take_add_one, hx9, List.map_append]; rfl
      refine ⟨rfl, tyes ?_⟩
      have fin : ∀ y : V, y = wrd (sTx x) → ∃ acc, Ha D = some (.lst acc) ∧ acc.length < sizeLine ∧ Same H8 (upd Ha D (.lst (acc ++ [y]))) ∧ upd Ha D (.lst (acc ++ [y])) D = some (.lst ((xs.take (k + 1)).map fun x => wrd (sTx x))) := fun y ey => by
        refine ⟨_, hD9, by rw [List.length_map, List.length_take]; exact sz1000' (by omega), same_mut s9 hD, ?_⟩
        rw [upd_same, e, ey]
      walk_at "rds"
      show rStrM [x] Ha _
      rcases (good_wd g8 x (List.mem_of_getElem? hx9)).2 with ⟨z, rfl, _⟩ | ⟨n, rfl, h12⟩
      · exact .inl ⟨z, rfl, fin _ (wrd_str z).symm⟩
      · refine .inr ⟨(n : Int), rfl, ?_, fin _ (wrd_str _).symm⟩
        by_cases h0 : n = 0
        · subst h0; decide
        · exact (Nat.log2_lt (by omega)).mpr (Nat.lt_of_le_of_lt (show (n : Int).natAbs ≤ 10 ^ 12 by omega) (by decide +kernel))
    · obtain ⟨s9, hD9⟩ := hp
      rw [List.take_length] at hD9
      walk_at "rds"
      show rAppend (V.ref p) [V.ref D] H9 _
      have hp8 := s8 _ _ hp7
      have hp9 := s9 _ _ hp8
      refine ⟨p, _, _, rfl, rfl, hp9, by rw [List.length_map]; exact sz1000' (by omega), ?_⟩
      have nDp : D ≠ p := fun z => by rw [z, hp8] at hD; cases hD
      refine ⟨_, _, _, wss ++ [xs.map sTx], rfl, same_mut (s6.trans (s8.trans s9)) hp, ⟨as ++ [D], by rw [upd_same, List.map_append]; rfl, by simp [la], fun j b ys e1 e2 => ?_⟩, fun ys my => ?_, by simp [lx]⟩
      · by_cases hj : j < wss.length
        · rw [List.getElem?_append_left (by omega)] at e1
          rw [List.getElem?_append_left hj] at e2
          obtain ⟨nbp, h7⟩ := hx j b ys e1 e2
          rw [upd_ne nbp]
          exact ⟨nbp, s9 _ _ (s8 _ _ h7)⟩
        · rw [List.getElem?_append_right (by omega)] at e1 e2
          have ej : j = wss.length := by
            have := (List.getElem?_eq_some_iff.mp e2).1
            simp at this; omega
          subst ej
          rw [la, Nat.sub_self] at e1
          rw [Nat.sub_self] at e2
          obtain rfl : D = b := Option.some.inj e1
          obtain rfl : xs.map sTx = ys := Option.some.inj e2
          rw [upd_ne nDp, List.map_map]
          exact ⟨nDp, hD9⟩
      · rcases List.mem_append.mp my with my | my
        · exact hg ys my
        · rw [List.mem_singleton.mp my, List.length_map]
          refine ⟨g1, g6, fun l ml => ?_⟩
          obtain ⟨x, mx, rfl⟩ := List.mem_map.mp ml
          exact good_w g8 x mx
  · obtain ⟨y2, y3, y4, wss, rfl, s6, ⟨as, hp6, la, hx⟩, hg, lx⟩ := hp3
    refine ⟨fun σ' H' => ∃ (y2 y3 y4 : Option V) (uss : List (List (List Nat))), σ' = [some (.ref a), some (.ref p), y2, y3, y4, none, none] ∧ Same H H' ∧ RowsW H' p uss ∧ (∀ us ∈ uss, us.length ≤ 13 ∧ ∀ l ∈ us, WOk l) ∧ uss.length ≤ 7, ?_, ?_⟩
    · walk_at "rds"
      have base : ∀ us ∈ wss, us.length ≤ 13 ∧ ∀ l ∈ us, WOk l := fun us m => by
        obtain ⟨_, b, c⟩ := hg us m
        exact ⟨by omega, fun l ml => ⟨by have := (c l ml).1; omega, (c l ml).2⟩⟩
      refine ⟨a, ns, 1, rfl, s6.seq hS, ?_⟩
      walk_at "rds"
      refine ite2 (fun _ => ?_) (fun _ => ?_)
      · walk_at "rds"
        refine ⟨a, ns, 1, rfl, s6.seq hS, ?_⟩
        walk_at "rds"
        refine ⟨p, _, rfl, .inl (sq hp6), ?_⟩
        rw [List.length_map]
        walk_at "rds"
        obtain ⟨n, hn⟩ := Int.eq_ofNat_of_zero_le (Int.emod_nonneg (ns.getD 1 0 / 2) (show (as.length : Int) ≠ 0 by omega))
        have hn2 : n < as.length := by have := Int.emod_lt_of_pos (ns.getD 1 0 / 2) (show (0 : Int) < as.length by omega); omega
        have gn : as[n]? = some as[n] := List.getElem?_eq_getElem hn2
        have gw : wss[n]? = some wss[n] := List.getElem?_eq_getElem (by omega)
        obtain ⟨nq, hq⟩ := hx n _ _ gn gw
        obtain ⟨b1, b2, b3⟩ := hg _ (List.getElem_mem (show n < wss.length by omega))
        generalize as[n] = an at gn nq hq
        generalize wss[n] = wn at gw hq b1 b2 b3
        refine ⟨p, _, ((n : Nat) : Int), _, rfl, congrArg V.int hn, sq hp6, atI_nat (by rw [List.getElem?_map, gn]; rfl), ?_⟩
        walk_at "rds"
        refine ⟨a, ns, 2, rfl, s6.seq hS, ?_⟩
        walk_at "rds"
        refine ⟨an, _, wn, rfl, hq, b1, b2, b3, fun H8 b us s8 n8 h8 l8 w8 => ?_⟩
        walk_at "rds"
        have hp8 := s8 _ _ hp6
        have nbp : b ≠ p := fun z => by rw [z, hp6] at n8; cases n8
        refine ⟨p, _, ((n : Nat) : Int), n, rfl, congrArg V.int hn, hp8, ixN_in (by rw [List.length_map]; exact hn2), ?_⟩
        refine ⟨y2, _, y4, wss.set n us, rfl, same_mut (s6.trans s8) hp, ⟨as.set n b, by rw [upd_same, List.map_set], by rw [List.length_set, List.length_set]; exact la, fun j c vs e1 e2 => ?_⟩, fun vs mv => ?_, by rw [List.length_set]; omega⟩
        · by_cases hj : n = j
          · subst hj
            rw [List.getElem?_set_self hn2] at e1
            rw [List.getElem?_set_self (by omega)] at e2
            obtain rfl : b = c := Option.some.inj e1
            obtain rfl : us = vs := Option.some.inj e2
            rw [upd_ne nbp]
            exact ⟨nbp, h8⟩
          · rw [List.getElem?_set_ne hj] at e1 e2
            obtain ⟨ncp, hc⟩ := hx j c vs e1 e2
            rw [upd_ne ncp]
            exact ⟨ncp, s8 _ _ hc⟩
        · rcases List.mem_or_eq_of_mem_set mv with mv | rfl
          · exact base vs mv
          · exact ⟨l8, w8⟩
      · exact ⟨y2, y3, y4, wss, rfl, s6, ⟨as, hp6, la, hx⟩, base, by omega⟩
    · rintro σ' H' ⟨y2, y3, y4, uss, rfl, s7, ⟨as, hp7, la, hx⟩, hu, lu⟩
      walk_at "rds"
      refine ⟨⟨_, sq hp7⟩, fun D hD => ?_⟩
      refine lc_it (walk_list (K := K) (a := p) (xs := as.map V.ref)) (Pv := fun k H2 => Same H' H2 ∧ H2 D = some (.lst ((uss.take k).map fun us => wrd (jnL 32 us)))) ⟨same_upd hD, upd_same⟩ (fun _ _ _ h => sq (h.1 _ _ hp7)) (fun k x H9 Ha hk hp2 hy => ?_) (fun H9 hp2 => ?_)
      · obtain ⟨s9, hD9⟩ := hp2
        obtain ⟨rfl, e5⟩ := hy
        rw [List.length_map] at hk
        have g1 : as[k]? = some as[k] := List.getElem?_eq_getElem hk
        have g2 : uss[k]? = some uss[k] := List.getElem?_eq_getElem (by omega)
        have ex : x = .ref as[k] := by rw [List.getElem?_map, g1] at e5; exact (Option.some.inj e5).symm
        subst ex
        have ht := s9 _ _ (hx k _ _ g1 g2).2
        obtain ⟨lk, wk⟩ := hu _ (List.mem_of_getElem? g2)
        have e : (uss.take (k + 1)).map (fun us => wrd (jnL 32 us)) = (uss.take k).map (fun us => wrd (jnL 32 us)) ++ [wrd (jnL 32 uss[k])] := by rw [List.take_add_one, g2, List.map_append]; rfl
        generalize uss[k] = us at ht lk wk e
        refine ⟨rfl, tyes ?_⟩
        walk_at "rds"
        refine ⟨_, as[k], us.map (fun l => (⟨l.toArray⟩ : Str)), rfl, rfl, .inl (sq (by rw [List.map_map]; exact ht)), ?_, ?_⟩
        · have := sum_le (m := 60) (us.map fun l => (⟨l.toArray⟩ : Str)) fun y my => by
            obtain ⟨l, ml, rfl⟩ := List.mem_map.mp my
            rw [wl]
            exact (wk l ml).1
          rw [show (Str.ofString " ").length = 1 from rfl]
          rw [List.length_map] at this ⊢
          omega
        · rw [show Str.ofString " " = ⟨#[32]⟩ from by decide, txtjoin_tl]
          refine ⟨_, hD9, by rw [List.length_map, List.length_take]; exact sz1000' (by omega), same_mut s9 hD, ?_⟩
          rw [upd_same, e]; rfl
      · obtain ⟨s9, hD9⟩ := hp2
        rw [List.length_map, la, List.take_length] at hD9
        have hD7 : H9 D = some (.lst (((uss.map (jnL 32)).map fun l => (⟨l.toArray⟩ : Str)).map V.str)) := by rw [hD9, List.map_map, List.map_map]; rfl
        have row : ∀ us ∈ uss, (jnL 32 us).length ≤ 793 := fun us m => by
          have a1 := jnL_le (c := 32) (m := 60) (ls := us) fun l ml => ((hu us m).2 l ml).1
          have := (hu us m).1
          omega
        refine ⟨_, D, _, rfl, rfl, .inl (sq hD7), ?_, ?_⟩
        · have := sum_le (m := 793) ((uss.map (jnL 32)).map fun l => (⟨l.toArray⟩ : Str)) fun y my => by
            rw [List.map_map] at my
            obtain ⟨x, mx, rfl⟩ := List.mem_map.mp my
            show (⟨(jnL 32 x).toArray⟩ : Str).length ≤ 793
            rw [wl]
            exact row x mx
          rw [show (Str.ofString ";").length = 1 from rfl]
          rw [List.length_map, List.length_map] at this ⊢
          omega
        · rw [show Str.ofString ";" = ⟨#[59]⟩ from by decide, txtjoin_tl]
          refine q _ _ (s7.trans s9) ?_ ?_
          · rw [wl]
            have a1 := jnL_le (c := 59) (m := 793) (ls := uss.map (jnL 32)) fun l ml => by
              obtain ⟨x, mx, rfl⟩ := List.mem_map.mp ml
              exact row x mx
            rw [List.length_map] at a1
            omega
          · intro c mc
            have mc : c ∈ jnL 59 (uss.map (jnL 32)) := mc
            rcases jnL_mem mc with e | ⟨l, ml, e⟩
            · rw [e]; exact .inl (by decide)
            · obtain ⟨us, mu, rfl⟩ := List.mem_map.mp ml
              rcases jnL_mem e with e | ⟨l, ml2, e⟩
              · rw [e]; exact .inl (by decide)
              · exact ((hu us mu).2 l ml2).2 c e
end

theorem dig_mem (c : Nat) : decide (c ∈ (Str.ofString "0123456789").cps.toList) = dg c := mem_small (by decide +kernel) (by decide +kernel) (fun c h => by have := dg_lt h; omega) c
theorem key_mem (c : Nat) : decide (c ∈ (Str.ofString "abcdefghijklmnopqrstuvwxyz" ++ Str.ofString "0123456789.").cps.toList) = decide (c ∈ keysL) := mem_small (p := fun c => decide (c ∈ keysL)) (by decide +kernel) (by decide +kernel) (fun c h => (show ∀ c ∈ keysL, c < 128 by decide +kernel) c (of_decide_eq_true h)) c
section
variable {P : Program} {w : World} {K : PySem.W.Frag} {mg : Str → Option Value} {base : Heap}
def spArgL : Sp := fun vs H Q _ => ∃ (d : Nat) (l : List Nat), vs = [.str ⟨#[d]⟩, wrd l] ∧ d ∈ [110, 97, 107, 118] ∧ l ≠ [] ∧ 32 ∉ l ∧ 59 ∉ l ∧ l.all prC = true ∧ l.length ≤ 1000 ∧ (kindOk (conv d) l = true → Q (.str "") H) ∧ (kindOk (conv d) l = false → Q (.str (conv d)) H)
theorem c__law_argument {C_BadCommand : Addr} {C_VERBS : Addr} (T : Txt K mg w C_BadCommand C_VERBS) : Cal P w K mg base 2 "_law_argument" spArgL [] := by
  have c__law_all_in := c__law_all_in (P := P) (w := w) (base := base) T
  refine cal T.d__law_argument sc__law_argument (fun vs H Q E h => ?_) (fun f cdv A' outer s H vs Q E hr h => ?_)
  · obtain ⟨d, l, rfl, _⟩ := h; rfl
  obtain ⟨d, l, rfl, hd, h0, h32, h59, hp, hl, q1, q2⟩ := h
  refine ⟨_, (pss_cons (ps_set (i := 2) sc__law_argument.nd rfl (Or.inl rfl) pe_str)
      (pss_cons (ps_if (pt_cmpR op_eq (pv 0) pe_str (nomark _)) (pss_one (ps_ret (pe_ifExp (PW.pt (pw_and (pt_cmpR op_le (pe_callB call_len_str (by rfl) T.z_len (by decide +kernel) (pa_cons (pv 1) pa_nil)) pe_int (nomark _)) (pw_and1 (pt_val (pe_c c__law_all_in hr (by decide) (by rfl) (pa_cons (pv 1) (pa_cons (pv 2) pa_nil))))))) pe_str pe_str))) pss_nil)
      (pss_cons (ps_if (pt_cmpR op_eq (pv 0) pe_str (nomark _)) (pss_one (ps_ret (pe_ifExp (PW.pt (pw_and (pt_cmpR op_le (pe_callB call_len_str (by rfl) T.z_len (by decide +kernel) (pa_cons (pv 1) pa_nil)) pe_int (nomark _)) (pw_and1 (pt_val (pe_c c__law_all_in hr (by decide) (by rfl) (pa_cons (pv 1) (pa_cons (pe_op op_add_str (pv 2) pe_str) pa_nil))))))) pe_str pe_str))) pss_nil)
      (pss_cons (ps_if (pt_cmpR op_eq (pv 0) pe_str (nomark _)) (pss_one (ps_ret (pe_ifExp (pt_cmpR op_le (pe_callB call_len_str (by rfl) T.z_len (by decide +kernel) (pa_cons (pv 1) pa_nil)) pe_int (nomark _)) pe_str pe_str))) pss_nil)
      (pss_cons (ps_if (PW.pt (pw_or (pt_cmpR op_gt (pe_callB call_len_str (by rfl) T.z_len (by decide +kernel) (pa_cons (pv 1) pa_nil)) pe_int (nomark _)) (pw_or1 (pt_not (pt_val (pe_c c__law_all_in hr (by decide) (by rfl) (pa_cons (pv 1) (pa_cons pe_str pa_nil)))))))) (pss_one (ps_ret pe_str)) pss_nil)
      (pss_one (ps_ret (pe_ifExp (PW.pt (pw_and (pt_cmpR op_gt (pe_callB call_len_str (by rfl) T.z_len (by decide +kernel) (pa_cons (pv 1) pa_nil)) pe_int (nomark _)) (pw_and1 (pt_cmpR op_eq (pe_ix ix_str (pv 1) pe_int (fun _ _ => rfl)) pe_str (nomark _))))) pe_str pe_str)))))))), ?_⟩
  have lw := wl l
  have h1 : 1 ≤ l.length := by
    cases l with
    | nil => exact absurd rfl h0
    | cons _ _ => simp
  have hd : d = 110 ∨ d = 97 ∨ d = 107 ∨ d = 118 := by simpa using hd
  have en : Str.ofString "n" = ⟨#[110]⟩ := by decide
  have ea : Str.ofString "k" = ⟨#[107]⟩ := by decide
  have ek : Str.ofString "v" = ⟨#[118]⟩ := by decide
  walk_at "rds"
  rw [en, sgnD]
  by_cases hn : d = 110
  · subst hn
    refine ifT rfl ?_
    have q1 : nmL l = true → Q (.str (Str.ofString "")) H := q1
    have q2 : nmL l = false → Q (.str (Str.ofString "name")) H := q2
    unfold nmL at q1 q2
    rw [decide_eq_true h1, Bool.true_and] at q1 q2
    walk_at "rds"
    refine ite2 (fun e2 => ?_) (fun e2 => ?_)
    · have e2 : ((⟨l.toArray⟩ : Str).length : Int) ≤ 12 := of_decide_eq_true e2
      rw [decide_eq_true (show (l.length : Int) ≤ 12 by omega), Bool.true_and] at q1 q2
      walk_at "rds"
      refine ⟨⟨l.toArray⟩, _, rfl, _, rfl, ?_⟩
      cases e : inL l lettersL with
      | false => exact ifF e (q2 e)
      | true => exact ifT e (q1 e)
    · have e2 : ¬ ((⟨l.toArray⟩ : Str).length : Int) ≤ 12 := fun h => e2 (decide_eq_true h)
      rw [decide_eq_false (show ¬ (l.length : Int) ≤ 12 by omega)] at q2
      exact q2 rfl
  refine ifF (decide_eq_false hn) ?_
  walk_at "rds"
  rw [ea, sgnD]
  by_cases hk : d = 107
  · subst hk
    refine ifT rfl ?_
    have q1 : kyL l = true → Q (.str (Str.ofString "")) H := q1
    have q2 : kyL l = false → Q (.str (Str.ofString "key")) H := q2
    unfold kyL at q1 q2
    rw [decide_eq_true h1, Bool.true_and, ← inL_cong key_mem] at q1 q2
    walk_at "rds"
    refine ite2 (fun e2 => ?_) (fun e2 => ?_)
    · have e2 : ((⟨l.toArray⟩ : Str).length : Int) ≤ 20 := of_decide_eq_true e2
      rw [decide_eq_true (show (l.length : Int) ≤ 20 by omega), Bool.true_and] at q1 q2
      walk_at "rds"
      refine ⟨⟨l.toArray⟩, _, rfl, _, rfl, ?_⟩
      cases e : inL l (Str.ofString "abcdefghijklmnopqrstuvwxyz" ++ Str.ofString "0123456789.").cps.toList with
      | false => exact ifF rfl (q2 e)
      | true => exact ifT rfl (q1 e)
    · have e2 : ¬ ((⟨l.toArray⟩ : Str).length : Int) ≤ 20 := fun h => e2 (decide_eq_true h)
      rw [decide_eq_false (show ¬ (l.length : Int) ≤ 20 by omega)] at q2
      exact q2 rfl
  refine ifF (decide_eq_false hk) ?_
  walk_at "rds"
  rw [ek, sgnD]
  by_cases hv : d = 118
  · subst hv
    refine ifT rfl ?_
    have q1 : vlL l = true → Q (.str (Str.ofString "")) H := q1
    have q2 : vlL l = false → Q (.str (Str.ofString "value")) H := q2
    unfold vlL at q1 q2
    have he : l.isEmpty = false := by
      cases l with
      | nil => exact absurd rfl h0
      | cons _ _ => rfl
    rw [he, decide_eq_false h32, decide_eq_false h59, hp] at q1 q2
    walk_at "rds"
    refine ite2 (fun e2 => ?_) (fun e2 => ?_)
    · have e2 : ((⟨l.toArray⟩ : Str).length : Int) ≤ 40 := of_decide_eq_true e2
      rw [decide_eq_true (show (l.length : Int) ≤ 40 by omega)] at q1
      exact q1 rfl
    · have e2 : ¬ ((⟨l.toArray⟩ : Str).length : Int) ≤ 40 := fun h => e2 (decide_eq_true h)
      rw [decide_eq_false (show ¬ (l.length : Int) ≤ 40 by omega)] at q2
      exact q2 rfl
  refine ifF (decide_eq_false hv) ?_
  obtain rfl : d = 97 := by omega
  have q1 : amL l = true → Q (.str (Str.ofString "")) H := q1
  have q2 : amL l = false → Q (.str (Str.ofString "amount")) H := q2
  unfold amL dcL at q1 q2
  have he : l.isEmpty = false := by
    cases l with
    | nil => exact absurd rfl h0
    | cons _ _ => rfl
  rw [he, ← inL_all dig_mem] at q1 q2
  walk_at "rds"
  refine ite2 (fun e2 => ?_) (fun e2 => ?_)
  · have e2 : ((⟨l.toArray⟩ : Str).length : Int) > 12 := of_decide_eq_true e2
    rw [decide_eq_false (show ¬ (l.length : Int) ≤ 12 by omega)] at q2
    walk_at "rds"
    exact q2 rfl
  have e2 : ¬ ((⟨l.toArray⟩ : Str).length : Int) > 12 := fun h => e2 (decide_eq_true h)
  rw [decide_eq_true (show (l.length : Int) ≤ 12 by omega)] at q1 q2
  walk_at "rds"
  refine ⟨⟨l.toArray⟩, _, rfl, _, rfl, ?_⟩
  cases hin : inL l (Str.ofString "0123456789").cps.toList with
  | false =>
    rw [hin] at q2
    refine ifT (rfl) ?_
    walk_at "rds"
    exact q2 rfl
  | true =>
  rw [hin] at q1 q2
  refine ifF (rfl) ?_
  walk_at "rds"
  obtain ⟨c0, r, rfl⟩ : ∃ c r, l = c :: r := by
    cases l with
    | nil => exact absurd rfl h0
    | cons c r => exact ⟨c, r, rfl⟩
  refine ite2 (fun e3 => ?_) (fun e3 => ?_)
  · have e3 : ((⟨(c0 :: r).toArray⟩ : Str).length : Int) > 1 := of_decide_eq_true e3
    walk_at "rds"
    refine ⟨⟨(c0 :: r).toArray⟩, _, c0, rfl, rfl, by rw [wl]; exact sz1000 (by omega), atI_nat (j := 0) (by rfl), ?_⟩
    walk_at "rds"
    rw [show Str.ofString "0" = ⟨#[48]⟩ from by decide, sgnD]
    have hr : r ≠ [] := fun z => by rw [z] at e3; simp [wl] at e3
    by_cases h48 : c0 = 48
    · refine ifT (decide_eq_true h48) ?_
      subst h48
      refine q2 ?_
      cases r with
      | nil => exact absurd rfl hr
      | cons _ _ => rfl
    · refine ifF (decide_eq_false h48) ?_
      refine q1 ?_
      simp [h48]
  · have e3 : ¬ ((⟨(c0 :: r).toArray⟩ : Str).length : Int) > 1 := fun h => e3 (decide_eq_true h)
    have hr : r = [] := by
      cases r with
      | nil => rfl
      | cons _ _ => exfalso; simp [wl] at e3; omega
    subst hr
    refine q1 ?_
    by_cases h48 : c0 = 48
    · subst h48; rfl
    · simp [h48]
end

theorem spA_mem {c : Nat} : ∀ (p : List Nat), ∀ l ∈ spA c p, ∀ x ∈ l, x ∈ p
  | [], l, hl, x, hx => by rw [List.mem_singleton.mp hl] at hx; cases hx
  | a :: r, l, hl, x, hx => by
    rw [spA] at hl
    split at hl
    · rcases List.mem_cons.mp hl with rfl | hl
      · cases hx
      · exact List.mem_cons_of_mem _ (spA_mem r l hl x hx)
    · obtain ⟨u, q, e⟩ := spA_ne c r
      rw [e] at hl
      have ih := spA_mem (c := c) r
      rw [e] at ih
      rcases List.mem_cons.mp hl with rfl | hl
      · rcases List.mem_append.mp hx with hx | hx
        · rw [List.mem_singleton.mp hx]; exact List.mem_cons_self
        · exact List.mem_cons_of_mem _ (ih u List.mem_cons_self x hx)
      · exact List.mem_cons_of_mem _ (ih l (List.mem_cons_of_mem _ hl) x hx)
theorem spA_no {c : Nat} : ∀ (p : List Nat), ∀ l ∈ spA c p, c ∉ l
  | [], l, hl => by rw [List.mem_singleton.mp hl]; simp
  | a :: r, l, hl => by
    rw [spA] at hl
    split at hl
    · rcases List.mem_cons.mp hl with rfl | hl
      · simp
      · exact spA_no r l hl
    · rename_i hne
      obtain ⟨u, q, e⟩ := spA_ne c r
      rw [e] at hl
      have ih := spA_no (c := c) r
      rw [e] at ih
      rcases List.mem_cons.mp hl with rfl | hl
      · intro m
        rcases List.mem_append.mp m with m | m
        · have := List.mem_singleton.mp m
          subst this
          simp at hne
        · exact ih u List.mem_cons_self m
      · exact ih l (List.mem_cons_of_mem _ hl)
theorem verb_none {v : Str} (h : ∀ x ∈ formsT, x.1 ≠ v) : verbT.lookup v = none := by
  cases e : verbT.lookup v with
  | none => rfl
  | some ks =>
    have key : ∀ y ∈ verbT, ∃ x ∈ formsT, x.1 = y.1 := by decide +kernel
    obtain ⟨x, m, ex⟩ := key _ (lookup_mem e)
    exact absurd ex (h x m)
theorem forms_ks : ∀ x ∈ formsT, ∀ d ∈ x.2.cps.toList, d ∈ [110, 97, 107, 118] := by decide +kernel
theorem conv_ne (d : Nat) : conv d ≠ Str.ofString "" := by
  unfold conv
  split
  · decide +kernel
  · split
    · decide +kernel
    · split <;> decide +kernel
theorem conv_am {d : Nat} : conv d = "amount" ↔ d = 97 := by
  unfold conv
  constructor
  · intro h
    split at h
    · exact absurd h (by decide +kernel)
    · split at h
      · assumption
      · split at h <;> exact absurd h (by decide +kernel)
  · rintro rfl; rfl
def spOne : Sp := fun vs H Q _ => ∃ (p : List Nat) (i : Nat), vs = [wrd p] ∧ p.length ≤ 240 ∧ 59 ∉ p ∧ (∀ c ∈ p, prC c = true) ∧ (∀ r k, psR i p = .inl (r, k) → ∀ H', Same H H' → Q (.str r) H') ∧ (∀ xs, psR i p = .inr xs → ∀ H' t, Same H H' → H t = none → H' t = some (.tup xs) → Q (.ref t) H')
section
variable {P : Program} {w : World} {K : PySem.W.Frag} {mg : Str → Option Value} {base : Heap}
theorem c__law_one {C_BadCommand : Addr} {C_VERBS : Addr} (T : Txt K mg w C_BadCommand C_VERBS) : Cal P w K mg base 3 "_law_one" spOne [] := by
  have c__law_argument := c__law_argument (P := P) (w := w) (base := base) T
  have c__law_forms := c__law_forms (P := P) (w := w) (base := base) T
  refine cal T.d__law_one sc__law_one (fun vs H Q E h => ?_) (fun f cdv A' outer s H vs Q E hr h => ?_)
  · obtain ⟨p, i0, rfl, _⟩ := h; rfl
  obtain ⟨p, i0, rfl, hp, h59, hpr, qe, qr⟩ := h
  refine ⟨_, (pss_cons (ps_if (pt_cmpR op_eq (pv 0) pe_str (nomark _)) (pss_one (ps_ret pe_str)) pss_nil)
      (pss_cons (ps_set (i := 1) sc__law_one.nd rfl (Or.inl rfl) (pe_split (pv 0) pe_str))
      (pss_cons (ps_if (pt_cmpR (kin (K := K)) pe_str (pv 1) (by rfl)) (pss_one (ps_ret pe_str)) pss_nil)
      (pss_cons (ps_for PassesOwn.never rfl (pi_list (pe_c0 c__law_forms hr (by decide) (by rfl))) (pg_tup (by rfl) (pgs_cons (pg_name (i := 2) sc__law_one.nd rfl (Or.inl rfl)) (pgs_cons (pg_name (i := 3) sc__law_one.nd rfl (Or.inl rfl)) pgs_nil))) (pss_one (ps_if (pt_cmpR op_eq (pv 2) (pe_ix (kixl (K := K)) (pv 1) pe_int (fun _ _ => rfl)) (nomark _)) (pss_cons (ps_if (pt_cmpR op_ne (pe_callB (klen (K := K)) (by rfl) T.z_len (by decide +kernel) (pa_cons (pv 1) pa_nil)) (pe_op op_add (pe_callB call_len_str (by rfl) T.z_len (by decide +kernel) (pa_cons (pv 3) pa_nil)) pe_int) (nomark _)) (pss_one (ps_ret pe_str)) pss_nil)
      (pss_cons (ps_set (i := 4) sc__law_one.nd rfl (Or.inl rfl) (pe_lst (pa_cons (pv 2) pa_nil)))
      (pss_cons (ps_for PassesOwn.never rfl (pi_range1 (by rfl) T.z_range (pa_cons (pe_callB call_len_str (by rfl) T.z_len (by decide +kernel) (pa_cons (pv 3) pa_nil)) pa_nil)) (pg_name (i := 5) sc__law_one.nd rfl (Or.inl rfl)) (pss_cons (ps_set (i := 6) sc__law_one.nd rfl (Or.inl rfl) (pe_c c__law_argument hr (by decide) (by rfl) (pa_cons (pe_ix ix_str (pv 3) (pv 5) (fun _ _ => rfl)) (pa_cons (pe_ix (kixl (K := K)) (pv 1) (pe_op op_add (pv 5) pe_int) (fun _ _ => rfl)) pa_nil))))
      (pss_cons (ps_if (pt_cmpR op_ne (pv 6) pe_str (nomark _)) (pss_one (ps_ret (pv 6))) pss_nil)
      (pss_one (ps_expr (pe_bm PySem.F.plainAttrs_list PySem.F.slot_list_append PySem.F.type_list_append mt_append (pv 4) (pa_cons (pe_ifExp (pt_cmpR op_eq (pe_ix ix_str (pv 3) (pv 5) (fun _ _ => rfl)) pe_str (nomark _)) (pe_callTy call_int_str (by rfl) T.z_int (by decide +kernel) (pa_cons (pe_ix (kixl (K := K)) (pv 1) (pe_op op_add (pv 5) pe_int) (fun _ _ => rfl)) pa_nil)) (pe_ix (kixl (K := K)) (pv 1) (pe_op op_add (pv 5) pe_int) (fun _ _ => rfl))) pa_nil)))))))
      (pss_one (ps_ret (pe_callTy call_tuple_of (by rfl) T.z_tuple (by decide +kernel) (pa_cons (pv 4) pa_nil))))))) pss_nil)))
      (pss_one (ps_ret pe_str)))))), ?_⟩
  have sl := sizeLine_eq
  have ez : decide (wrd p = V.str (Str.ofString "")) = decide (p = []) := by
    apply decide_eq_decide.mpr
    exact ⟨fun h => congrArg (fun v => match v with | V.str s => s.cps.toList | _ => []) h, fun h => by rw [h]; rfl⟩
  unfold psR at qe qr
  walk_at "rds"
  by_cases h0 : p = []
  · refine ifT (ez.trans (decide_eq_true h0)) ?_
    walk_at "rds"
    exact qe _ _ (by rw [if_pos h0]) H (Same.refl _)
  rw [if_neg h0] at qe qr
  refine ifF (ez.trans (decide_eq_false h0)) ?_
  walk_at "rds"
  refine ⟨⟨p.toArray⟩, _, rfl, rfl, rfl, by rw [wl]; omega, fun b hb => ?_⟩
  rw [sgn1.1, split_wrdC]
  have er : (⟨p.toArray⟩ : Str).cps.toList = p := rfl
  rw [er]
  have s1 := same_upd (o := .lst ((spA 32 p).map wrd)) hb
  have hb1 : upd H b (.lst ((spA 32 p).map wrd)) b = some (.lst ((spA 32 p).map wrd)) := upd_same
  generalize upd H b (.lst ((spA 32 p).map wrd)) = H1 at s1 hb1 ⊢
  walk_at "rds"
  refine ⟨b, _, rfl, .inl (sq hb1), rfl, flat_wrd _, ?_⟩
  walk_at "rds"
  rw [if_neg Bool.false_ne_true, in_wrd]
  by_cases hsp : [] ∈ spA 32 p
  · refine ifT (decide_eq_true hsp) ?_
    walk_at "rds"
    exact qe _ _ (by rw [if_pos hsp]) _ s1
  refine ifF (decide_eq_false hsp) ?_
  rw [if_neg hsp] at qe qr
  have sh := spA_short 32 p
  have sn := spA_len 32 p
  have smem := spA_mem (c := 32) p
  have sno := spA_no (c := 32) p
  obtain ⟨v, ws, ev⟩ := spA_ne 32 p
  rw [ev] at hb1 qe qr sh sn smem sno hsp
  walk_at "rds"
  delta tNil
  refine ⟨rfl, fun H2 L as s2 hL la hf => ?_⟩
  have s12 := s1.trans s2
  have hb2 := s2 _ _ hb1
  walk_at "rds"
  refine ⟨⟨_, sq hL⟩, ?_⟩
  refine for_it (walk_list (K := K) (a := L) (xs := as.map V.ref)) (Pv := fun j σ H' => ∃ (y2 y3 : Option V), σ = [some (wrd p), some (.ref b), y2, y3, none, none, none] ∧ Same H2 H' ∧ ∀ n < j, ∀ x, formsT[n]? = some x → x.1 ≠ (⟨v.toArray⟩ : Str)) ⟨none, none, rfl, Same.refl _, fun n h => by omega⟩ (fun _ _ _ _ h => by obtain ⟨_, _, _, h, _⟩ := h; exact sq (h _ _ hL)) (fun j x σ H6 H7 hj hp3 hy => ?_) (fun σ H6 hp3 => ?_)
  · obtain ⟨y2, y3, rfl, s6, pre⟩ := hp3
    obtain ⟨rfl, e5⟩ := hy
    rw [List.length_map, la] at hj
    have g1 : as[j]? = some as[j] := List.getElem?_eq_getElem (by omega)
    have ex : x = .ref as[j] := by rw [List.getElem?_map, g1] at e5; exact (Option.some.inj e5).symm
    subst ex
    have g2 : formsT[j]? = some formsT[j] := List.getElem?_eq_getElem (show j < formsT.length from hj)
    obtain ⟨hvb, hk4⟩ := forms_ok _ (List.mem_of_getElem? g2)
    have hds := forms_ks _ (List.mem_of_getElem? g2)
    have ht := s6 _ _ (hf j _ _ g1 g2)
    generalize formsT[j] = fo at hvb hk4 hds ht g2
    obtain ⟨verb, kinds⟩ := fo
    generalize as[j] = t at ht g1
    have hvb : verbT.lookup verb = some (kinds.cps.toList.map conv) := hvb
    have hk4 : kinds.length ≤ 4 := hk4
    have hds : ∀ d ∈ kinds.cps.toList, d ∈ [110, 97, 107, 118] := hds
    have ht : H7 t = some (.tup [.str verb, .str kinds]) := ht
    have hb7 := s6 _ _ hb2
    refine ⟨t, _, rfl, .inl (.inl ht), rfl, _, _, rfl, _, _, rfl, rfl, ?_⟩
    walk_at "rds"
    refine ⟨b, _, ((0 : Nat) : Int), _, rfl, rfl, sq hb7, atI_nat (by rfl), ?_⟩
    walk_at "rds"
    have ev2 : decide (V.str verb = wrd v) = decide (verb = (⟨v.toArray⟩ : Str)) := decide_eq_decide.mpr ⟨fun h => V.str.inj h, fun h => by rw [h]; rfl⟩
    by_cases hvv : verb = (⟨v.toArray⟩ : Str)
    · refine ifT (ev2.trans (decide_eq_true hvv)) ?_
      have hlk : verbT.lookup (⟨v.toArray⟩ : Str) = some (kinds.cps.toList.map conv) := by rw [← hvv]; exact hvb
      rw [psW_some hlk, List.length_map, len_tl] at qe qr
      walk_at "rds"
      refine ⟨b, _, rfl, .inl (sq hb7), ?_⟩
      walk_at "rds"
      rw [List.length_map, List.length_cons]
      by_cases hlen : ws.length = kinds.length
      · rw [if_pos hlen] at qe qr
        refine ifF (by simp [hlen]) ?_
        walk_at "rds"
        intro pt npt
        have s7 := s12.trans s6
        have np := same_none s7 npt
        have s8 := s7.trans (same_upd (o := .lst [V.str verb]) npt)
        have hb8 := (same_upd (o := .lst [V.str verb]) npt) _ _ hb7
        have hp8 : upd H7 pt (.lst [V.str verb]) pt = some (.lst [V.str verb]) := upd_same
        have nbp : b ≠ pt := fun z => by rw [z, npt] at hb7; cases hb7
        generalize upd H7 pt (.lst [V.str verb]) = H8 at s8 hb8 hp8 ⊢
        have lk := len_tl kinds
        generalize hks : kinds.cps.toList.map conv = ks at qe qr hlk
        have lks : ks.length = kinds.length := by rw [← hks, List.length_map, lk]
        walk_at "rds"
        refine for_it walk_range (Pv := fun i σ H' => ∃ (acc : List V) (y5 y6 : Option V), σ = [some (wrd p), some (.ref b), some (.str verb), some (.str kinds), some (.ref pt), y5, y6] ∧ Same H H' ∧ H' b = some (.lst ((v :: ws).map wrd)) ∧ H' pt = some (.lst (.str verb :: acc)) ∧ acc.length = i ∧ argsV ks ws = acc ++ argsV (ks.drop i) (ws.drop i) ∧ argBad ks ws = argBad (ks.drop i) (ws.drop i)) ⟨[], none, none, rfl, s8, hb8, hp8, rfl, rfl, rfl⟩ (fun _ _ _ _ _ => trivial) (fun i x σ H9 Ha hi hp4 hy => ?_) (fun σ H9 hp4 => ?_)
        · obtain ⟨acc, y5, y6, rfl, s9, hb9, hp9, la9, av, ab⟩ := hp4
          obtain ⟨rfl, rfl⟩ := hy
          show gName 5 (V.int (0 + (i : Int))) _ Ha _
          rw [Int.zero_add]
          have i1 : i < kinds.cps.toList.length := by omega
          have i2 : i < ws.length := by omega
          have gd : kinds.cps.toList[i]? = some kinds.cps.toList[i] := List.getElem?_eq_getElem i1
          have gw : ws[i]? = some ws[i] := List.getElem?_eq_getElem i2
          have gk : ks[i]? = some (conv kinds.cps.toList[i]) := by rw [← hks, List.getElem?_map, gd]; rfl
          have md := hds _ (List.getElem_mem i1)
          have ml := List.mem_cons_of_mem v (List.getElem_mem i2)
          obtain ⟨st1, st2⟩ := argBad_step gk gw
          have lw : ws[i].length ≤ 240 := by have := sh _ ml; omega
          have w0 : ws[i] ≠ [] := fun z => hsp (by rw [← z]; exact ml)
          have w32 := sno _ ml
          have w59 : 59 ∉ ws[i] := fun m => h59 (smem _ ml _ m)
          have wpr : ws[i].all prC = true := List.all_eq_true.mpr fun c m => hpr c (smem _ ml c m)
          have gw1 : (v :: ws)[i + 1]? = some ws[i] := by rw [List.getElem?_cons_succ]; exact gw
          generalize kinds.cps.toList[i] = d at gd gk md st1 st2
          generalize ws[i] = l at gw st1 st2 lw w0 w32 w59 wpr gw1
          have ix1 : atI ((v :: ws).map wrd) ((i : Int) + 1) = some (wrd l) := by
            rw [show (i : Int) + 1 = ((i + 1 : Nat) : Int) from by omega]
            exact atI_nat (by rw [List.getElem?_map, gw1]; rfl)
          walk_at "rds"
          refine ⟨kinds, _, d, rfl, rfl, sz1000 (by omega), atI_nat gd, ?_⟩
          walk_at "rds"
          refine ⟨b, _, _, _, rfl, rfl, sq hb9, ix1, ?_⟩
          walk_at "rds"
          refine ⟨d, l, rfl, md, w0, w32, w59, wpr, by omega, fun ok => ?_, fun bad => ?_⟩
          · rw [if_pos ok] at st1
            walk_at "rds"
            refine ⟨.inl ⟨rfl, _, sq hp9⟩, ?_⟩
            have done : ∃ (acc' : List V) (y5 y6 : Option V), ([some (wrd p), some (.ref b), some (.str verb), some (.str kinds), some (.ref pt), some (.int (i : Nat)), some (.str (Str.ofString ""))] : L2.St) = [some (wrd p), some (.ref b), some (.str verb), some (.str kinds), some (.ref pt), y5, y6] ∧ Same H (upd Ha pt (.lst (.str verb :: acc ++ [argV (conv d) l]))) ∧ upd Ha pt (.lst (.str verb :: acc ++ [argV (conv d) l])) b = some (.lst ((v :: ws).map wrd)) ∧ upd Ha pt (.lst (.str verb :: acc ++ [argV (conv d) l])) pt = some (.lst (.str verb :: acc')) ∧ acc'.length = i + 1 ∧ argsV ks ws = acc' ++ argsV (ks.drop (i + 1)) (ws.drop (i + 1)) ∧ argBad ks ws = argBad (ks.drop (i + 1)) (ws.drop (i + 1)) := by
              refine ⟨acc ++ [argV (conv d) l], _, _, rfl, same_mut s9 np, by rw [upd_ne nbp]; exact hb9, upd_same, by simp [la9], ?_, ?_⟩
              · rw [av, st2, List.append_assoc]; rfl
              · rw [ab, st1]
            have lsz : (V.str verb :: acc).length < sizeLine := by
              rw [List.length_cons]
              exact sz1000' (by omega)
            walk_at "rds"
            refine ⟨kinds, _, d, rfl, rfl, sz1000 (by omega), atI_nat gd, ?_⟩
            walk_at "rds"
            rw [show Str.ofString "a" = ⟨#[97]⟩ from by decide, sgnD]
            by_cases h97 : d = 97
            · refine ifT (decide_eq_true h97) ?_
              walk_at "rds"
              refine ⟨b, _, _, _, rfl, rfl, sq hb9, ix1, ?_⟩
              walk_at "rds"
              subst h97
              have ha : amL l = true := ok
              obtain ⟨a1, a2⟩ := amt_int ha
              refine ⟨_, _, rfl, a1, a2, ?_⟩
              walk_at "rds"
              exact ⟨pt, _, _, rfl, rfl, hp9, lsz, done⟩
            · refine ifF (decide_eq_false h97) ?_
              walk_at "rds"
              refine ⟨b, _, _, _, rfl, rfl, sq hb9, ix1, ?_⟩
              walk_at "rds"
              have e : argV (conv d) l = wrd l := by unfold argV; rw [if_neg (fun z => h97 (conv_am.mp z))]; rfl
              rw [e] at done
              exact ⟨pt, _, _, rfl, rfl, hp9, lsz, done⟩
          · rw [if_neg (by rw [bad]; decide)] at st1
            walk_at "rds"
            refine ifT (by rw [decide_eq_false (fun z => conv_ne d (V.str.inj z))]; rfl) ?_
            walk_at "rds"
            rw [ab, st1] at qe
            exact qe _ _ rfl _ s9
        · obtain ⟨acc, y5, y6, rfl, s9, hb9, hp9, la9, av, ab⟩ := hp4
          obtain ⟨n1, n2⟩ := argBad_end (ks := ks) (ws := ws) (i := ((kinds.length : Int)).toNat) (by omega)
          rw [n2, List.append_nil] at av
          rw [ab, n1] at qr
          walk_at "rds"
          refine ⟨pt, _, rfl, .inl ⟨sq hp9, fun t3 ht3 => ?_⟩⟩
          refine qr _ ?_ _ t3 (s9.trans (same_upd ht3)) (same_none s9 ht3) upd_same
          show Sum.inr _ = Sum.inr _
          rw [av, hvv]
      · rw [if_neg hlen] at qe
        refine ifT (by simp; omega) ?_
        walk_at "rds"
        exact qe _ _ rfl _ (s12.trans s6)
    · refine ifF (ev2.trans (decide_eq_false hvv)) ?_
      refine ⟨_, _, rfl, s6, fun n hn x ex => ?_⟩
      by_cases h : n < j
      · exact pre n h x ex
      · obtain rfl : n = j := by omega
        rw [g2] at ex
        rw [← Option.some.inj ex]
        exact hvv
  · obtain ⟨y2, y3, rfl, s6, pre⟩ := hp3
    walk_at "rds"
    have hn : verbT.lookup (⟨v.toArray⟩ : Str) = none := verb_none fun x m => by
      obtain ⟨n, hn⟩ := List.getElem?_of_mem m
      have l16 : n < formsT.length := (List.getElem?_eq_some_iff.mp hn).1
      exact pre n (by rw [List.length_map, la]; exact l16) x hn
    exact qe _ _ (psW_none hn) _ (s12.trans s6)
theorem psR_idx {i : Nat} {p : List Nat} {r : Str} {k : Nat} (h : psR i p = .inl (r, k)) : k = i := by
  unfold psR at h
  split at h
  · injection h with h; injection h with _ h; exact h.symm
  split at h
  · injection h with h; injection h with _ h; exact h.symm
  obtain ⟨v, ws, e⟩ := spA_ne 32 p
  rw [e] at h
  cases hlk : verbT.lookup (⟨v.toArray⟩ : Str) with
  | none => rw [psW_none hlk] at h; injection h with h; injection h with _ h; exact h.symm
  | some ks =>
    rw [psW_some hlk] at h
    split at h
    · split at h
      · injection h with h; injection h with _ h; exact h.symm
      · cases h
    · injection h with h; injection h with _ h; exact h.symm
def spDue (K : PySem.W.Frag) : Sp := fun vs H Q _ => ∃ (z : Str), vs = [.str z] ∧ z.length ≤ 10000 ∧ (∀ c ∈ z.cps.toList, Bc c) ∧
  (∀ r k, pcAll z.cps.toList = .inl (r, k) → ∀ H' b, Same H H' → H' b = some (.tup [.str r, .int k]) → Q (.ref b) H') ∧
  (∀ rs, pcAll z.cps.toList = .inr rs → ∀ H' b, Same H H' → Dt K H' none (.ref b) (.list (rs.map rowT)) → Q (.ref b) H')
theorem c__law_due {C_BadCommand : Addr} {C_VERBS : Addr} (T : Txt K mg w C_BadCommand C_VERBS) : Cal P w K mg base 4 "_law_due" (spDue K) [] := by
  have c__law_one := c__law_one (P := P) (w := w) (base := base) T
  refine cal T.d__law_due sc__law_due (fun vs H Q E h => ?_) (fun f cdv A' outer s H vs Q E hr h => ?_)
  · obtain ⟨z, rfl, _⟩ := h; rfl
  obtain ⟨z, rfl, hz, hbc, qe, qr⟩ := h
  refine ⟨_, (pss_cons (ps_if (pt_cmpR op_gt (pe_callB call_len_str (by rfl) T.z_len (by decide +kernel) (pa_cons (pv 0) pa_nil)) pe_int (nomark _)) (pss_one (ps_ret (pe_tup (pa_cons pe_str (pa_cons pe_int pa_nil))))) pss_nil)
      (pss_cons (ps_if (PW.pt (pw_or (pt_cmpR op_inS pe_str (pv 0) (by rfl)) (pw_or1 (pt_cmpR op_inS pe_str (pv 0) (by rfl))))) (pss_one (ps_ret (pe_tup (pa_cons pe_str (pa_cons pe_int pa_nil))))) pss_nil)
      (pss_cons (ps_set (i := 1) sc__law_due.nd rfl (Or.inl rfl) (pe_lst pa_nil))
      (pss_cons (ps_for PassesOwn.never rfl (pi_list (pe_split (pv 0) pe_str)) (pg_name (i := 2) sc__law_due.nd rfl (Or.inl rfl)) (pss_cons (ps_set (i := 3) sc__law_due.nd rfl (Or.inl rfl) (pe_c c__law_one hr (by decide) (by rfl) (pa_cons (pv 2) pa_nil)))
      (pss_cons (ps_if (pt_val (pe_callB (kisi (K := K)) (by rfl) T.z_isinstance (by decide +kernel) (pa_cons (pv 3) (pa_cons (pe_bltn (v := .ty "str") (by rfl) T.z_str (by decide +kernel) rfl) pa_nil)))) (pss_one (ps_ret (pe_tup (pa_cons (pv 3) (pa_cons (pe_callB (klen (K := K)) (by rfl) T.z_len (by decide +kernel) (pa_cons (pv 1) pa_nil)) pa_nil))))) pss_nil)
      (pss_one (ps_expr (pe_bm PySem.F.plainAttrs_list PySem.F.slot_list_append PySem.F.type_list_append mt_append (pv 1) (pa_cons (pv 3) pa_nil)))))))
      (pss_one (ps_ret (pv 1))))))), ?_⟩
  walk_at "rds"
  have lz := len_tl z
  have sl := sizeLine_eq
  have new : ∀ {r : Str} {k : Nat}, pcAll z.cps.toList = .inl (r, k) → ∀ H', Same H H' → ∀ b, H' b = none → Q (.ref b) (upd H' b (.tup [.str r, .int k])) := fun e H' s b hb => qe _ _ e _ b (s.trans (same_upd hb)) upd_same
  unfold pcAll at new qr
  by_cases h240 : 240 < z.length
  · refine ifT (decide_eq_true (by omega)) ?_
    walk_at "rds"
    exact fun b hb => new (by rw [if_pos (by omega)]) H (Same.refl _) b hb
  rw [if_neg (by omega)] at new qr
  refine ifF (decide_eq_false (by omega)) ?_
  walk_at "rds"
  have t10 : (UInt8.ofNat '\n'.val.toNat).toNat = 10 := by decide
  have t9 : (UInt8.ofNat '\t'.val.toNat).toNat = 9 := by decide
  have bad : ∀ c, (c = 9 ∨ c = 10) → c ∈ z.cps.toList → ∀ b, H b = none → Q (.ref b) (upd H b (.tup [.str (Str.ofString "character"), .int ((0 : Nat) : Int)])) := fun c hc m b hb => new (by
    rw [if_neg (fun h => by
      have := List.all_eq_true.mp h c m
      rcases hc with rfl | rfl <;> exact absurd this (by decide))]) H (Same.refl _) b hb
  refine ite2 (fun e1 => ?_) (fun e1 => ?_)
  · walk_at "rds"
    rw [t10] at e1
    walk_at "rds"
    exact bad 10 (.inr rfl) (of_decide_eq_true e1)
  walk_at "rds"
  refine ite2 (fun e2 => ?_) (fun e2 => ?_)
  · walk_at "rds"
    rw [t9] at e2
    exact bad 9 (.inl rfl) (of_decide_eq_true e2)
  rw [t10] at e1
  rw [t9] at e2
  have hpr : ∀ c ∈ z.cps.toList, prC c = true := fun c m => by
    rcases hbc c m with h | rfl | rfl
    · exact h
    · exact absurd (decide_eq_true m) e2
    · exact absurd (decide_eq_true m) e1
  rw [if_pos (List.all_eq_true.mpr hpr)] at new qr
  clear bad
  walk_at "rds"
  intro b hb
  walk_at "rds"
  refine ⟨_, _, rfl, rfl, rfl, by omega, fun p hp2 => ?_⟩
  rw [sgn1.2, split_wrdC]
  have sh := spA_short 59 z.cps.toList
  have sn := spA_len 59 z.cps.toList
  have smem := spA_mem (c := 59) z.cps.toList
  have sno := spA_no (c := 59) z.cps.toList
  generalize spA 59 z.cps.toList = ps at new qr sh sn smem sno
  have sb := same_upd (o := .lst []) hb
  have s0 := sb.trans (same_upd (o := .lst (ps.map wrd)) hp2)
  have hb0 : upd (upd H b (.lst [])) p (.lst (ps.map wrd)) b = some (.lst []) := (same_upd hp2) _ _ upd_same
  have hp0 : upd (upd H b (.lst [])) p (.lst (ps.map wrd)) p = some (.lst (ps.map wrd)) := upd_same
  have nbp : b ≠ p := fun z => by rw [z, upd_same] at hp2; cases hp2
  generalize upd (upd H b (.lst [])) p (.lst (ps.map wrd)) = H0 at s0 hb0 hp0 ⊢
  walk_at "rds"
  refine ⟨⟨_, sq hp0⟩, ?_⟩
  refine for_it (walk_list (K := K) (a := p) (xs := ps.map wrd)) (Pv := fun i σ H' => ∃ (xs : List V) (rows : List (List V)) (y2 y3 : Option V), σ = [some (.str z), some (.ref b), y2, y3] ∧ Same H H' ∧ H' p = some (.lst (ps.map wrd)) ∧ H' b = some (.lst xs) ∧ DtAll K H' (some b) xs (rows.map rowT) ∧ rows.length = i ∧
      pcL 0 ps = (match pcL i (ps.drop i) with | .inl e => .inl e | .inr r => .inr (rows ++ r))) ⟨[], [], none, none, rfl, s0, hp0, hb0, .nil, rfl, by rw [List.drop_zero]; cases pcL 0 ps <;> rfl⟩ (fun _ _ _ _ h => by obtain ⟨_, _, _, _, _, _, h, _⟩ := h; exact sq h) (fun i x σ H6 H7 hi hp hy => ?_) (fun σ H6 hp => ?_)
  · obtain ⟨xs, rows, y2, y3, rfl, s6, hp6, hb6, dt, lr, pre⟩ := hp
    obtain ⟨rfl, e5⟩ := hy
    rw [List.getElem?_map] at e5
    have hi' : i < ps.length := by rw [List.length_map] at hi; exact hi
    have gp : ps[i]? = some ps[i] := List.getElem?_eq_getElem hi'
    have ex : x = wrd ps[i] := by rw [gp] at e5; exact (Option.some.inj e5).symm
    subst ex
    have mp := List.getElem_mem hi'
    have lq : ps[i].length ≤ 240 := by have := sh ps[i] mp; omega
    have hk : xs.length = i := by rw [dt.length, List.length_map, lr]
    have u59 := sno _ mp
    have upr := fun c m => hpr c (smem _ mp c m)
    rw [List.drop_eq_getElem_cons hi', pcL] at pre
    generalize ps[i] = u at lq u59 upr pre
    walk_at "rds"
    delta tNil
    refine ⟨u, i, rfl, lq, u59, upr, fun r k hps H8 s8 => ?_, fun ys hps H8 t s8 nt ht => ?_⟩
    · rw [hps] at pre
      walk_at "rds"
      refine ⟨_, .ty _, _, _, true, rfl, .ty _, .base (.str _), kit_ty (by decide +kernel), ?_⟩
      walk_at "rds"
      refine ⟨b, _, rfl, .inl (sq (s8 _ _ hb6)), ?_⟩
      walk_at "rds"
      rw [hk]
      rw [psR_idx hps] at pre
      exact fun c hc => new pre _ (s6.trans s8) c hc
    · rw [hps] at pre
      walk_at "rds"
      refine ⟨_, .ty _, _, _, false, rfl, .ty _, .base (.tup ht), kit_ty (by decide +kernel), ?_⟩
      walk_at "rds"
      refine ⟨.inl ⟨rfl, _, sq (s8 _ _ hb6)⟩, ?_⟩
      walk_at "rds"
      have ntb : t ≠ b := fun z => by rw [z, hb6] at nt; cases nt
      have hb8 := s8 _ _ hb6
      refine ⟨b, xs, _, rfl, rfl, hb8, by rw [hk]; exact sz1000' (by omega), ?_⟩
      refine ⟨xs ++ [.ref t], rows ++ [ys], _, _, rfl, same_mut (s6.trans s8) hb, by rw [upd_ne nbp.symm]; exact s8 _ _ hp6, upd_same, ?_, by rw [List.length_append, lr]; rfl, ?_⟩
      · rw [List.map_append]
        exact DtAll.chg hb8 (fun b o n e => by rw [upd_ne n]; exact e) _ _ ((dt.on s8).snoc2 (.tup (.inl ht) (sc_dt (psR_sc (by omega) hps))))
      · rw [pre]
        cases pcL (i + 1) (ps.drop (i + 1)) with
        | inl e => rfl
        | inr r => show Sum.inr (rows ++ ys :: r) = Sum.inr (rows ++ [ys] ++ r); rw [List.append_assoc]; rfl
  · obtain ⟨xs, rows, y2, y3, rfl, s6, hp6, hb6, dt, lr, pre⟩ := hp
    rw [List.length_map, List.drop_length, pcL] at pre
    walk_at "rds"
    refine qr _ pre _ _ s6 ?_
    rw [List.append_nil]
    exact .lst trivial hb6 (DtAll.frees _ _ dt)
end

--@SPLIT
def ScP (v : V) : Prop := (∃ z : Str, v = .str z ∧ PyData.strOk z = true) ∨ ∃ n, v = .int n
theorem lay_xs {xs : List V} (h : ∀ x ∈ xs, ScP x) : PyData.canLayAll0 (xs.map vD) = true ∧ PyData.depthAll (xs.map vD) ≤ 0 := by
  induction xs with
  | nil => simp [PyData.canLayAll0, PyData.depthAll]
  | cons x r ih =>
    obtain ⟨i1, i2⟩ := ih fun y m => h y (List.mem_cons_of_mem _ m)
    rcases h x (by simp) with ⟨z, rfl, so⟩ | ⟨n, rfl⟩
    · rw [List.map_cons]
      refine ⟨by simp [PyData.canLayAll0, vD, PyData.canLay0, so, i1], ?_⟩
      simp only [PyData.depthAll, vD, PyData.depth]
      omega
    · rw [List.map_cons]
      refine ⟨by simp [PyData.canLayAll0, vD, PyData.canLay0, i1], ?_⟩
      simp only [PyData.depthAll, vD, PyData.depth]
      omega
theorem lay_xss {xss : List (List V)} (h : ∀ xs ∈ xss, ∀ x ∈ xs, ScP x) : PyData.canLayAll0 (xss.map rowT) = true ∧ PyData.depthAll (xss.map rowT) ≤ 1 := by
  induction xss with
  | nil => simp [PyData.canLayAll0, PyData.depthAll]
  | cons r rs ih =>
    obtain ⟨i1, i2⟩ := ih fun x m => h x (List.mem_cons_of_mem _ m)
    obtain ⟨j1, j2⟩ := lay_xs (h r List.mem_cons_self)
    rw [List.map_cons]
    refine ⟨by simp [PyData.canLayAll0, rowT, PyData.canLay0, j1]; exact i1, ?_⟩
    simp only [PyData.depthAll, rowT, PyData.depth] at *
    omega
theorem shape_xss {xss : List (List V)} (h : ∀ xs ∈ xss, ∀ x ∈ xs, ScP x) : SeqAt.shaped (.list (xss.map rowT)) = true ∧ PyData.eqv (.list (xss.map rowT)) (.list (xss.map rowT)) = true := by
  obtain ⟨i1, i2⟩ := lay_xss h
  have l : (PyData.list (xss.map rowT)).canLay0 = true := by simp [PyData.canLay0, i1]
  refine ⟨?_, SeqAt.eqv_refl _ l⟩
  unfold SeqAt.shaped
  rw [l, Bool.true_and]
  refine decide_eq_true ?_
  rw [PyData.depth]
  omega
theorem strOk_pr {l : List Nat} (h : ∀ c ∈ l, prC c = true) : PyData.strOk (⟨l.toArray⟩ : Str) = true := by
  unfold PyData.strOk
  rw [← Array.all_toList]
  refine List.all_eq_true.mpr fun c m => decide_eq_true ?_
  have := h c m
  unfold prC at this
  rw [Bool.and_eq_true, Bool.and_eq_true] at this
  have := of_decide_eq_true this.1.2
  omega
theorem argsV_p : ∀ {ks : List Str} {ws : List (List Nat)}, (∀ l ∈ ws, ∀ c ∈ l, prC c = true) → ∀ x ∈ argsV ks ws, ScP x
  | [], _, _, x, h => nomatch h
  | _ :: _, [], _, x, h => nomatch h
  | k :: ks, l :: ls, hl, x, h => by
    rcases List.mem_cons.mp h with rfl | h
    · unfold argV
      split
      · exact .inr ⟨_, rfl⟩
      · exact .inl ⟨_, rfl, strOk_pr (hl l List.mem_cons_self)⟩
    · exact argsV_p (fun l m => hl l (List.mem_cons_of_mem _ m)) x h
theorem psR_p {i : Nat} {p : List Nat} {xs : List V} (hp : ∀ c ∈ p, prC c = true) (h : psR i p = .inr xs) : ∀ x ∈ xs, ScP x := by
  unfold psR at h
  split at h
  · cases h
  split at h
  · cases h
  have sm := spA_mem (c := 32) p
  obtain ⟨v, ws, e⟩ := spA_ne 32 p
  rw [e] at h sm
  have pr := fun l ml c mc => hp c (sm l ml c mc)
  cases hlk : verbT.lookup (⟨v.toArray⟩ : Str) with
  | none => rw [psW_none hlk] at h; cases h
  | some ks =>
    rw [psW_some hlk] at h
    split at h
    · cases hb : argBad ks ws with
      | some k => rw [hb] at h; cases h
      | none =>
        rw [hb] at h
        injection h with h
        subst h
        intro x hx
        rcases List.mem_cons.mp hx with rfl | hx
        · exact .inl ⟨_, rfl, strOk_pr (pr v List.mem_cons_self)⟩
        · exact argsV_p (fun l m => pr l (List.mem_cons_of_mem _ m)) x hx
    · cases h
theorem pcL_p : ∀ {ps : List (List Nat)} {k : Nat} {rs : List (List V)}, (∀ p ∈ ps, ∀ c ∈ p, prC c = true) → pcL k ps = .inr rs → ∀ xs ∈ rs, ∀ x ∈ xs, ScP x
  | [], k, rs, _, h => by rw [pcL] at h; injection h with h; subst h; intro xs m; cases m
  | p :: ps, k, rs, hp, h => by
    rw [pcL] at h
    cases e : psR k p with
    | inl z => rw [e] at h; cases h
    | inr ys =>
      rw [e] at h
      cases e2 : pcL (k + 1) ps with
      | inl z => rw [e2] at h; cases h
      | inr r =>
        rw [e2] at h
        injection h with h
        subst h
        intro xs m
        rcases List.mem_cons.mp m with rfl | m
        · exact psR_p (hp p List.mem_cons_self) e
        · exact pcL_p (fun q mq => hp q (List.mem_cons_of_mem _ mq)) e2 xs m
theorem pcAll_p {cs : List Nat} {rs : List (List V)} (h : pcAll cs = .inr rs) : ∀ xs ∈ rs, ∀ x ∈ xs, ScP x := by
  unfold pcAll at h
  split at h
  · cases h
  split at h
  · rename_i hp
    exact pcL_p (fun p m c mc => List.all_eq_true.mp hp c (spA_mem cs p m c mc)) h
  · cases h
theorem pcL_len : ∀ {ps : List (List Nat)} {k : Nat} {rs : List (List V)}, pcL k ps = .inr rs → rs.length = ps.length
  | [], k, rs, h => by rw [pcL] at h; injection h with h; subst h; rfl
  | p :: ps, k, rs, h => by
    rw [pcL] at h
    cases e : psR k p with
    | inl z => rw [e] at h; cases h
    | inr ys =>
      rw [e] at h
      cases e2 : pcL (k + 1) ps with
      | inl z => rw [e2] at h; cases h
      | inr r =>
        rw [e2] at h
        injection h with h
        subst h
        rw [List.length_cons, List.length_cons, pcL_len e2]
theorem pcAll_len {cs : List Nat} {rs : List (List V)} (h : pcAll cs = .inr rs) : rs.length ≤ 241 := by
  unfold pcAll at h
  split at h
  · cases h
  split at h
  · have := pcL_len h
    have := spA_len 59 cs
    omega
  · cases h
theorem conv_ok (k : Str) (h : k ∈ [Str.ofString "verb", Str.ofString "count", Str.ofString "empty", Str.ofString "space", Str.ofString "long", Str.ofString "character", Str.ofString "name", Str.ofString "amount", Str.ofString "key", Str.ofString "value"]) : PyData.strOk k = true := by
  revert k
  decide +kernel
theorem argBad_ok : ∀ {ks : List Str} {ws : List (List Nat)} {k : Str}, (∀ x ∈ ks, PyData.strOk x = true) → argBad ks ws = some k → PyData.strOk k = true
  | [], _, _, _, h => by cases h
  | _ :: _, [], _, _, h => by cases h
  | k :: ks, l :: ls, z, hk, h => by
    rw [argBad] at h
    split at h
    · exact argBad_ok (fun x m => hk x (List.mem_cons_of_mem _ m)) h
    · rw [← Option.some.inj h]; exact hk k List.mem_cons_self
theorem psR_ok {i : Nat} {p : List Nat} {r : Str} {k : Nat} (h : psR i p = .inl (r, k)) : PyData.strOk r = true := by
  unfold psR at h
  split at h
  · injection h with h; injection h with h _; rw [← h]; decide +kernel
  split at h
  · injection h with h; injection h with h _; rw [← h]; decide +kernel
  obtain ⟨v, ws, e⟩ := spA_ne 32 p
  rw [e] at h
  cases hlk : verbT.lookup (⟨v.toArray⟩ : Str) with
  | none => rw [psW_none hlk] at h; injection h with h; injection h with h _; rw [← h]; decide +kernel
  | some ks =>
    rw [psW_some hlk] at h
    have key : ∀ y ∈ verbT, ∀ x ∈ y.2, PyData.strOk x = true := by decide +kernel
    split at h
    · split at h
      · rename_i hb
        injection h with h; injection h with h _; rw [← h]
        exact argBad_ok (key _ (lookup_mem hlk)) hb
      · cases h
    · injection h with h; injection h with h _; rw [← h]; decide +kernel
theorem pcL_ok : ∀ {ps : List (List Nat)} {k : Nat} {r : Str} {j : Nat}, pcL k ps = .inl (r, j) → PyData.strOk r = true
  | [], k, r, j, h => by rw [pcL] at h; cases h
  | p :: ps, k, r, j, h => by
    rw [pcL] at h
    cases e : psR k p with
    | inl z =>
      obtain ⟨z1, z2⟩ := z
      rw [e] at h; injection h with h; injection h with h1 _; rw [← h1]; exact psR_ok e
    | inr ys =>
      rw [e] at h
      cases e2 : pcL (k + 1) ps with
      | inl z =>
        obtain ⟨z1, z2⟩ := z
        rw [e2] at h; injection h with h; injection h with h1 _; rw [← h1]; exact pcL_ok e2
      | inr r => rw [e2] at h; cases h
theorem shape_bad {cs : List Nat} {r : Str} {k : Nat} (h : pcAll cs = .inl (r, k)) : SeqAt.shaped (.tuple [.str r, .int k]) = true ∧ PyData.eqv (.tuple [.str r, .int k]) (.tuple [.str r, .int k]) = true := by
  have so : PyData.strOk r = true := by
    unfold pcAll at h
    split at h
    · injection h with h; injection h with h _; rw [← h]; decide +kernel
    · split at h
      · exact pcL_ok h
      · injection h with h; injection h with h _; rw [← h]; decide +kernel
  have l : (PyData.tuple [.str r, .int k]).canLay0 = true := by simp [PyData.canLay0, PyData.canLayAll0, so]
  refine ⟨?_, SeqAt.eqv_refl _ l⟩
  unfold SeqAt.shaped
  rw [l]
  simp [PyData.depth, PyData.depthAll]
section
variable {P : Program} {w : World} {K : PySem.W.Frag} {mg : Str → Option Value} {base : Heap}
theorem ok_law {C_BadCommand : Addr} {C_VERBS : Addr} {f : Addr} {fd : FuncData} (F : L2.Fun K "law" "law" s_law f fd) (T : Txt K mg w C_BadCommand C_VERBS) : FnOk P w K mg base L2.CX0 8 f fd ["script"] (spLaw K) := by
  have c__law_built := c__law_built (P := P) (w := w) (K := K) (base := base) T
  have c__law_due := c__law_due (P := P) (w := w) (K := K) (base := base) T
  have c_parse_command := c_parse_command (P := P) (w := w) (K := K) (base := base) T
  refine F.ok sc_law (fun vs H Q E h => ?_) (fun cdv A' outer s H vs Q E hr h => ?_)
  · obtain ⟨a, ns, rfl, _⟩ := h; rfl
  obtain ⟨a, ns, rfl, hS, hlen, q⟩ := h
  have sl := sizeLine_eq
  refine ⟨_, (pss_cons (ps_set (i := 1) sc_law.nd rfl (Or.inl rfl) (pe_c c__law_built hr (by decide) (by rfl) (pa_cons (pv 0) pa_nil)))
      (pss_cons (ps_set (i := 2) sc_law.nd rfl (Or.inl rfl) (pe_c c__law_due hr (by decide) (by rfl) (pa_cons (pv 1) pa_nil)))
      (pss_cons (ps_set (i := 3) sc_law.nd rfl (Or.inl rfl) pe_non)
      (pss_cons (ps_set (i := 4) sc_law.nd rfl (Or.inl rfl) pe_non)
      (pss_cons (ps_try_as (i := 5) (Wout := fun _ _ _ _ => False) rfl rfl sc_law.nd rfl rfl ⟨by rfl, by decide, .inl T.x_BadCommand.g⟩ takes0 (fun W pn xe tk po => (pss_one (ps_set (i := 3) sc_law.nd rfl (Or.inl rfl) (pe_cX c_parse_command hr (by decide) (by rfl) (fun σ => passAt tk σ) (pa_cons (pv 1) pa_nil))))) (fun a oe cls d pn hz hf => (pss_one (ps_set (i := 4) sc_law.nd rfl (Or.inl rfl) (pe_tup (pa_cons (pe_xf T.x_BadCommand.xf T.xn_BadCommand_reason hz hf (pv 5)) (pa_cons (pe_xf T.x_BadCommand.xf T.xn_BadCommand_statement hz hf (pv 5)) pa_nil)))))))
      (pss_cons (ps_if (pt_val (pe_callB (kisi (K := K)) (by rfl) T.z_isinstance (by decide +kernel) (pa_cons (pv 2) (pa_cons (pe_bltn (v := .ty "tuple") (by rfl) T.z_tuple (by decide +kernel) rfl) pa_nil)))) (pss_one (ps_ret (pe_and (pe_cmpR op_notN (pv 4) pe_non (nomark _)) (pe_one (pe_cmpR (op_eqD hr.units) (pv 4) (pv 2) (nomark _)))))) pss_nil)
      (pss_cons (ps_if (PW.pt (pw_or (pt_cmpR op_notN (pv 4) pe_non (nomark _)) (pw_or (pt_not (pt_val (pe_callB (kisi (K := K)) (by rfl) T.z_isinstance (by decide +kernel) (pa_cons (pv 3) (pa_cons (pe_bltn (v := .ty "list") (by rfl) T.z_list (by decide +kernel) rfl) pa_nil))))) (pw_or1 (pt_cmpR op_ne (pe_callB (klen (K := K)) (by rfl) T.z_len (by decide +kernel) (pa_cons (pv 3) pa_nil)) (pe_callB (klen (K := K)) (by rfl) T.z_len (by decide +kernel) (pa_cons (pv 2) pa_nil)) (nomark _)))))) (pss_one (ps_ret pe_bl)) pss_nil)
      (pss_cons (ps_for PassesOwn.never rfl (pi_range1 (by rfl) T.z_range (pa_cons (pe_callB (klen (K := K)) (by rfl) T.z_len (by decide +kernel) (pa_cons (pv 2) pa_nil)) pa_nil)) (pg_name (i := 6) sc_law.nd rfl (Or.inl rfl)) (pss_cons (ps_if (PW.pt (pw_or (pt_not (pt_val (pe_callB (kisi (K := K)) (by rfl) T.z_isinstance (by decide +kernel) (pa_cons (pe_ix (kixl (K := K)) (pv 3) (pv 6) (fun _ _ => rfl)) (pa_cons (pe_bltn (v := .ty "tuple") (by rfl) T.z_tuple (by decide +kernel) rfl) pa_nil))))) (pw_or1 (pt_cmpR op_ne (pe_callB (klen (K := K)) (by rfl) T.z_len (by decide +kernel) (pa_cons (pe_ix (kixl (K := K)) (pv 3) (pv 6) (fun _ _ => rfl)) pa_nil)) (pe_callB (klen (K := K)) (by rfl) T.z_len (by decide +kernel) (pa_cons (pe_ix (kixl (K := K)) (pv 2) (pv 6) (fun _ _ => rfl)) pa_nil)) (nomark _))))) (pss_one (ps_ret pe_bl)) pss_nil)
      (pss_one (ps_for PassesOwn.never rfl (pi_tup (pe_ix (kixl (K := K)) (pv 3) (pv 6) (fun _ _ => rfl))) (pg_name (i := 7) sc_law.nd rfl (Or.inl rfl)) (pss_one (ps_if (pt_val (pe_callB (kisi (K := K)) (by rfl) T.z_isinstance (by decide +kernel) (pa_cons (pv 7) (pa_cons (pe_bltn (v := .ty "bool") (by rfl) T.z_bool (by decide +kernel) rfl) pa_nil)))) (pss_one (ps_ret pe_bl)) pss_nil))))))
      (pss_one (ps_ret (pe_cmpR (op_eqD hr.units) (pv 3) (pv 2) (nomark _)))))))))))), ?_⟩
  walk_at "rds"
  refine ⟨a, ns, rfl, hS, fun H1 z s1 hz hbc => ?_⟩
  walk_at "rds"
  have vf : ∀ p ∈ spA 59 z.cps.toList, ∀ v ws, spA 32 p = v :: ws → verbT.lookup ⟨v.toArray⟩ = none → PySem.W.nsIn K C_VERBS ⟨v.toArray⟩ = some none := fun _ _ _ _ _ h => verbs_free T h
  cases hst : pcAll z.cps.toList with
  | inl rk =>
    obtain ⟨r, k⟩ := rk
    refine ⟨fun r' k' e H2 b s2 hb => ?_, fun rs e => (by (try rw [hst] at e); cases e)⟩
    try rw [hst] at e
    injection e with e
    injection e with er ek
    subst er; subst ek
    walk_at "rds"
    refine ⟨fun rs e => (by (try rw [hst] at e); cases e), fun r' k' e H3 d s3 hd => ?_⟩
    try rw [hst] at e
    injection e with e
    injection e with er ek
    subst er; subst ek
    refine ⟨true, T.x_BadCommand.exm T.u_BadCommand_BadCommand, fun _ b' hb' => ?_, fun z => nomatch z⟩
    walk_at "rds"
    refine ⟨rfl, rfl, d, _, _, rfl, hd, rfl, ?_⟩
    walk_at "rds"
    refine ⟨rfl, rfl, d, _, _, rfl, hd, rfl, ?_⟩
    walk_at "rds"
    intro t ht
    have sht := same_upd (o := .tup [.str r, .int (k : Int)]) ht
    have hb5 := sht _ _ (s3 _ _ hb)
    have ht2 : upd H3 t (.tup [.str r, .int (k : Int)]) t = some (.tup [.str r, .int (k : Int)]) := upd_same
    generalize upd H3 t (.tup [.str r, .int (k : Int)]) = H5 at hb5 ht2 ⊢
    walk_at "rds"
    refine ⟨_, .ty _, _, _, true, rfl, .ty _, .base (.tup hb5), kit_ty (by decide +kernel), ?_⟩
    walk_at "rds"
    obtain ⟨sh1, sh2⟩ := shape_bad hst
    have dp : ∀ {x : Addr}, H5 x = some (.tup [.str r, .int (k : Int)]) → Dp K H5 (.ref x) (.tuple [.str r, .int (k : Int)]) := fun h => .tup (SqT.of h) (.cons (.str _) (.cons (.int _) .nil))
    refine ⟨_, _, dp ht2, dp hb5, sh1, sh1, ?_⟩
    rw [sh2]
    walk_at "rds"
    exact q _
  | inr rs =>
    refine ⟨fun r' k' e => (by (try rw [hst] at e); cases e), fun rs' e H2 b s2 hb => ?_⟩
    try rw [hst] at e
    injection e with e
    subst e
    walk_at "rds"
    refine ⟨fun rs' e H3 b3 s3 nb3 hb3 => ?_, fun r' k' e => (by (try rw [hst] at e); cases e)⟩
    try rw [hst] at e
    injection e with e
    subst e
    walk_at "rds"
    obtain ⟨sh1, sh2⟩ := shape_xss (pcAll_p hst)
    have hb4 := hb.on s3
    cases hb4 with
    | @lst _ xb _ _ hbl dtl =>
    obtain ⟨xa, hal, dta⟩ : ∃ xs, H3 b3 = some (.lst xs) ∧ DtAll K H3 none xs (rs.map rowT) := by
      cases hb3 with
      | lst _ h d => exact ⟨_, h, d⟩
    refine ⟨_, .ty _, _, _, false, rfl, .ty _, .base (.lst hbl), kit_ty (by decide +kernel), ?_⟩
    walk_at "rds"
    refine ⟨_, .ty _, _, _, true, rfl, .ty _, .base (.lst hal), kit_ty (by decide +kernel), ?_⟩
    walk_at "rds"
    refine ⟨b3, _, rfl, .inl (sq hal), ?_⟩
    walk_at "rds"
    refine ⟨b, _, rfl, .inl (sq hbl), ?_⟩
    walk_at "rds"
    have la := dta.length
    have lb := dtl.length
    rw [List.length_map] at la lb
    refine ifF (by rw [decide_eq_true (congrArg V.int (by omega))]; rfl) ?_
    walk_at "rds"
    refine ⟨b, _, rfl, .inl (sq hbl), ?_⟩
    walk_at "rds"
    have l241 := pcAll_len hst
    refine ⟨by omega, by omega, ?_⟩
    refine for_it walk_range (Pv := fun i σ H' => ∃ (y5 y6 y7 : Option V), σ = [some (.ref a), some (.str z), some (.ref b), some (.ref b3), some .non, y5, y6, y7] ∧ Same H3 H') ⟨none, none, none, rfl, Same.refl _⟩ (fun _ _ _ _ _ => trivial) (fun i x σ H6 H7 hi hp hy => ?_) (fun σ H6 hp => ?_)
    · obtain ⟨y5, y6, y7, rfl, s6⟩ := hp
      obtain ⟨rfl, rfl⟩ := hy
      show gName 6 (V.int (0 + (i : Int))) _ H7 _
      rw [Int.zero_add]
      have ib : i < xb.length := by omega
      have ia : i < xa.length := by omega
      have ga : xa[i]? = some xa[i] := List.getElem?_eq_getElem ia
      have gb : xb[i]? = some xb[i] := List.getElem?_eq_getElem ib
      have gr : rs[i]? = some rs[i] := List.getElem?_eq_getElem (by omega)
      obtain ⟨da, ea, hda⟩ := DtAll.get dta ga
      obtain ⟨db, eb, hdb⟩ := DtAll.get dtl gb
      rw [List.getElem?_map, gr] at ea eb
      have ea := Option.some.inj ea
      have eb := Option.some.inj eb
      subst ea; subst eb
      have hda : Dt K H7 none xa[i] (.tuple (rs[i].map vD)) := hda.on s6
      have hdb : Dt K H7 none xb[i] (.tuple (rs[i].map vD)) := hdb.on s6
      have hal7 := s6 _ _ hal
      have hbl7 := s6 _ _ hbl
      generalize xa[i] = va at ga hda
      generalize xb[i] = vb at gb hdb
      have sc := pcAll_p hst _ (List.getElem_mem (show i < rs.length by omega))
      generalize rs[i] = row at hda hdb sc
      have tya : TyX K H7 va (.type "tuple") := hda.ty
      cases hda with
      | tup ta dra =>
      cases hdb with
      | tup tb drb =>
      rename_i ca xsa cb xsb
      have lra := dra.length
      have lrb := drb.length
      walk_at "rds"
      refine ⟨b3, _, ((i : Nat) : Int), _, rfl, rfl, sq hal7, atI_nat ga, ?_⟩
      walk_at "rds"
      refine ⟨_, .ty _, _, _, true, rfl, .ty _, tya, kit_ty (by decide +kernel), ?_⟩
      walk_at "rds"
      refine ⟨b3, _, ((i : Nat) : Int), _, rfl, rfl, sq hal7, atI_nat ga, ?_⟩
      walk_at "rds"
      refine ⟨ca, _, rfl, .inr ta.sq, ?_⟩
      walk_at "rds"
      refine ⟨b, _, ((i : Nat) : Int), _, rfl, rfl, sq hbl7, atI_nat gb, ?_⟩
      walk_at "rds"
      refine ⟨cb, _, rfl, .inr tb.sq, ?_⟩
      walk_at "rds"
      refine ifF (by rw [decide_eq_true (congrArg V.int (by omega))]; rfl) ?_
      walk_at "rds"
      refine ⟨b3, _, ((i : Nat) : Int), _, rfl, rfl, sq hal7, atI_nat ga, ?_⟩
      refine ⟨ca, rfl, ⟨_, ta.sq⟩, ?_⟩
      refine for_it (walk_tup (K := K) (a := ca) (xs := xsa)) (Pv := fun j σ H' => ∃ (y5 y6 y7 : Option V), σ = [some (.ref a), some (.str z), some (.ref b), some (.ref b3), some .non, y5, y6, y7] ∧ H' = H7) ⟨_, _, _, rfl, rfl⟩ (fun _ _ _ _ h => by obtain ⟨_, _, _, _, rfl⟩ := h; exact ta.sq) (fun j x σ H8 H9 hj hp hy => ?_) (fun σ H8 hp => ?_)
      · obtain ⟨y5, y6, y7, rfl, rfl⟩ := hp
        obtain ⟨rfl, e5⟩ := hy
        obtain ⟨dd, ed, hd⟩ := DtAll.get dra e5
        rw [List.getElem?_map] at ed
        obtain ⟨v, ev, rfl⟩ := Option.map_eq_some_iff.mp ed
        walk_at "rds"
        have kb : ∃ T : String, TyX K H9 x (.type T) ∧ kitB T "bool" = some false := by
          rcases sc v (List.mem_of_getElem? ev) with ⟨zz, rfl, _⟩ | ⟨n, rfl⟩
          · exact ⟨"str", hd.ty, by decide +kernel⟩
          · exact ⟨"int", hd.ty, by decide +kernel⟩
        obtain ⟨Ty, ty, kb⟩ := kb
        refine ⟨_, .ty _, _, _, false, rfl, .ty _, ty, kit_ty kb, ?_⟩
        walk_at "rds"
        exact ⟨_, _, _, rfl, rfl⟩
      · obtain ⟨y5, y6, y7, rfl, rfl⟩ := hp
        exact ⟨_, _, _, rfl, s6⟩
    · obtain ⟨y5, y6, y7, rfl, s6⟩ := hp
      walk_at "rds"
      refine ⟨_, _, (hb3.on s6).dp, ((hb.on s3).on s6).dp, sh1, sh1, ?_⟩
      rw [sh2]
      walk_at "rds"
      exact q _
end

theorem fin {C_BadCommand : Addr} {C_VERBS : Addr} {P : Program} {w : World} {K : PySem.W.Frag} {mg : Str → Option Value} {fa : Addr} (hfa : mg "law" = some (.ref fa)) (T : Txt K mg w C_BadCommand C_VERBS) :
    ∃ fd : FuncData, (∀ (s : Shared) (u : Value), BindsTo s fd ⟨[u], []⟩ [("script", u)]) ∧ ∀ base : Heap, K.In base → base.Ns mainGlobals mg → FnOk P w K mg base L2.CX0 8 fa fd ["script"] (spLaw K) := by
  obtain ⟨f, fd, F, hm, b⟩ := T.d_law.ex
  cases hfa.symm.trans hm
  refine ⟨fd, fun s u => ?_, fun base _ _ => ok_law F T⟩
  obtain ⟨oc, od, kV, doc, pm, an, cdv, ct, osl, rfl, l, _⟩ := F.ex
  exact .of_eq rfl

theorem all_mk {K : PySem.W.Frag} {h : Heap} {mg : Str → Option Value} {w : World} (X : K.In h) (G : h.Ns mainGlobals mg)
    {f_is_printable : Addr} {od_is_printable an_is_printable : Option Addr} {sl_is_printable : Array (Option Value)} {oc_is_printable kV_is_printable dc_is_printable pm_is_printable cd_is_printable ct_is_printable : Value}
    {f_is_short : Addr} {od_is_short an_is_short : Option Addr} {sl_is_short : Array (Option Value)} {oc_is_short kV_is_short dc_is_short pm_is_short cd_is_short ct_is_short : Value}
    {f_is_decimal : Addr} {od_is_decimal an_is_decimal : Option Addr} {sl_is_decimal : Array (Option Value)} {oc_is_decimal kV_is_decimal dc_is_decimal pm_is_decimal cd_is_decimal ct_is_decimal : Value}
    {f_parts_of : Addr} {od_parts_of an_parts_of : Option Addr} {sl_parts_of : Array (Option Value)} {oc_parts_of kV_parts_of dc_parts_of pm_parts_of cd_parts_of ct_parts_of : Value}
    {f_words_of : Addr} {od_words_of an_words_of : Option Addr} {sl_words_of : Array (Option Value)} {oc_words_of kV_words_of dc_words_of pm_words_of cd_words_of ct_words_of : Value}
    {f_is_name : Addr} {od_is_name an_is_name : Option Addr} {sl_is_name : Array (Option Value)} {oc_is_name kV_is_name dc_is_name pm_is_name cd_is_name ct_is_name : Value}
    {f_is_key : Addr} {od_is_key an_is_key : Option Addr} {sl_is_key : Array (Option Value)} {oc_is_key kV_is_key dc_is_key pm_is_key cd_is_key ct_is_key : Value}
    {f_is_value : Addr} {od_is_value an_is_value : Option Addr} {sl_is_value : Array (Option Value)} {oc_is_value kV_is_value dc_is_value pm_is_value cd_is_value ct_is_value : Value}
    {f_is_amount : Addr} {od_is_amount an_is_amount : Option Addr} {sl_is_amount : Array (Option Value)} {oc_is_amount kV_is_amount dc_is_amount pm_is_amount cd_is_amount ct_is_amount : Value}
    {f_consists_of : Addr} {od_consists_of an_consists_of : Option Addr} {sl_consists_of : Array (Option Value)} {oc_consists_of kV_consists_of dc_consists_of pm_consists_of cd_consists_of ct_consists_of : Value}
    {f_parse_command : Addr} {od_parse_command an_parse_command : Option Addr} {sl_parse_command : Array (Option Value)} {oc_parse_command kV_parse_command dc_parse_command pm_parse_command cd_parse_command ct_parse_command : Value}
    {f_parse_statement : Addr} {od_parse_statement an_parse_statement : Option Addr} {sl_parse_statement : Array (Option Value)} {oc_parse_statement kV_parse_statement dc_parse_statement pm_parse_statement cd_parse_statement ct_parse_statement : Value}
    {f_parse_argument : Addr} {od_parse_argument an_parse_argument : Option Addr} {sl_parse_argument : Array (Option Value)} {oc_parse_argument kV_parse_argument dc_parse_argument pm_parse_argument cd_parse_argument ct_parse_argument : Value}
    {f_is_of_kind : Addr} {od_is_of_kind an_is_of_kind : Option Addr} {sl_is_of_kind : Array (Option Value)} {oc_is_of_kind kV_is_of_kind dc_is_of_kind pm_is_of_kind cd_is_of_kind ct_is_of_kind : Value}
    {f__law_cell : Addr} {od__law_cell an__law_cell : Option Addr} {sl__law_cell : Array (Option Value)} {oc__law_cell kV__law_cell dc__law_cell pm__law_cell cd__law_cell ct__law_cell : Value}
    {f__law_word : Addr} {od__law_word an__law_word : Option Addr} {sl__law_word : Array (Option Value)} {oc__law_word kV__law_word dc__law_word pm__law_word cd__law_word ct__law_word : Value}
    {f__law_all_in : Addr} {od__law_all_in an__law_all_in : Option Addr} {sl__law_all_in : Array (Option Value)} {oc__law_all_in kV__law_all_in dc__law_all_in pm__law_all_in cd__law_all_in ct__law_all_in : Value}
    {f__law_name : Addr} {od__law_name an__law_name : Option Addr} {sl__law_name : Array (Option Value)} {oc__law_name kV__law_name dc__law_name pm__law_name cd__law_name ct__law_name : Value}
    {f__law_key : Addr} {od__law_key an__law_key : Option Addr} {sl__law_key : Array (Option Value)} {oc__law_key kV__law_key dc__law_key pm__law_key cd__law_key ct__law_key : Value}
    {f__law_value : Addr} {od__law_value an__law_value : Option Addr} {sl__law_value : Array (Option Value)} {oc__law_value kV__law_value dc__law_value pm__law_value cd__law_value ct__law_value : Value}
    {f__law_amount : Addr} {od__law_amount an__law_amount : Option Addr} {sl__law_amount : Array (Option Value)} {oc__law_amount kV__law_amount dc__law_amount pm__law_amount cd__law_amount ct__law_amount : Value}
    {f__law_forms : Addr} {od__law_forms an__law_forms : Option Addr} {sl__law_forms : Array (Option Value)} {oc__law_forms kV__law_forms dc__law_forms pm__law_forms cd__law_forms ct__law_forms : Value}
    {f__law_statement : Addr} {od__law_statement an__law_statement : Option Addr} {sl__law_statement : Array (Option Value)} {oc__law_statement kV__law_statement dc__law_statement pm__law_statement cd__law_statement ct__law_statement : Value}
    {f__law_odd : Addr} {od__law_odd an__law_odd : Option Addr} {sl__law_odd : Array (Option Value)} {oc__law_odd kV__law_odd dc__law_odd pm__law_odd cd__law_odd ct__law_odd : Value}
    {f__law_spoilt : Addr} {od__law_spoilt an__law_spoilt : Option Addr} {sl__law_spoilt : Array (Option Value)} {oc__law_spoilt kV__law_spoilt dc__law_spoilt pm__law_spoilt cd__law_spoilt ct__law_spoilt : Value}
    {f__law_built : Addr} {od__law_built an__law_built : Option Addr} {sl__law_built : Array (Option Value)} {oc__law_built kV__law_built dc__law_built pm__law_built cd__law_built ct__law_built : Value}
    {f__law_argument : Addr} {od__law_argument an__law_argument : Option Addr} {sl__law_argument : Array (Option Value)} {oc__law_argument kV__law_argument dc__law_argument pm__law_argument cd__law_argument ct__law_argument : Value}
    {f__law_one : Addr} {od__law_one an__law_one : Option Addr} {sl__law_one : Array (Option Value)} {oc__law_one kV__law_one dc__law_one pm__law_one cd__law_one ct__law_one : Value}
    {f__law_due : Addr} {od__law_due an__law_due : Option Addr} {sl__law_due : Array (Option Value)} {oc__law_due kV__law_due dc__law_due pm__law_due cd__law_due ct__law_due : Value}
    {f_law : Addr} {od_law an_law : Option Addr} {sl_law : Array (Option Value)} {oc_law kV_law dc_law pm_law cd_law ct_law : Value}
    {C_BadCommand : Addr} {nm_BadCommand qn_BadCommand : Str} {NN_BadCommand : Addr} {bs_BadCommand bm_BadCommand sub_BadCommand : List Value} {sn_BadCommand : List Str} {ab_BadCommand : Bool} {col_BadCommand : Option Bool} {dd_BadCommand : Option Addr} {m0_BadCommand m1_BadCommand m2_BadCommand m3_BadCommand m5_BadCommand : Option Value}
    {f_BadCommand____init__ : Addr} {od_BadCommand____init__ an_BadCommand____init__ : Option Addr} {sl_BadCommand____init__ : Array (Option Value)} {oc_BadCommand____init__ kV_BadCommand____init__ dc_BadCommand____init__ pm_BadCommand____init__ cd_BadCommand____init__ ct_BadCommand____init__ : Value}
    {C_VERBS : Addr} {es_VERBS : Array DictEntry} {n_VERBS : Nat}
    {c_VERBS_0 : Addr} {od_VERBS_0 : Option Addr} {sl_VERBS_0 : Array (Option Value)} {n_VERBS_0 : Nat} {t_VERBS_0_0 : Tok}
    {c_VERBS_1 : Addr} {od_VERBS_1 : Option Addr} {sl_VERBS_1 : Array (Option Value)} {n_VERBS_1 : Nat} {t_VERBS_1_0 : Tok}
    {c_VERBS_2 : Addr} {od_VERBS_2 : Option Addr} {sl_VERBS_2 : Array (Option Value)} {n_VERBS_2 : Nat} {t_VERBS_2_0 : Tok} {t_VERBS_2_1 : Tok}
    {c_VERBS_3 : Addr} {od_VERBS_3 : Option Addr} {sl_VERBS_3 : Array (Option Value)} {n_VERBS_3 : Nat} {t_VERBS_3_0 : Tok} {t_VERBS_3_1 : Tok}
    {c_VERBS_4 : Addr} {od_VERBS_4 : Option Addr} {sl_VERBS_4 : Array (Option Value)} {n_VERBS_4 : Nat} {t_VERBS_4_0 : Tok} {t_VERBS_4_1 : Tok} {t_VERBS_4_2 : Tok}
    {c_VERBS_5 : Addr} {od_VERBS_5 : Option Addr} {sl_VERBS_5 : Array (Option Value)} {n_VERBS_5 : Nat} {t_VERBS_5_0 : Tok}
    {c_VERBS_6 : Addr} {od_VERBS_6 : Option Addr} {sl_VERBS_6 : Array (Option Value)} {n_VERBS_6 : Nat} {t_VERBS_6_0 : Tok} {t_VERBS_6_1 : Tok}
    {c_VERBS_7 : Addr} {od_VERBS_7 : Option Addr} {sl_VERBS_7 : Array (Option Value)} {n_VERBS_7 : Nat} {t_VERBS_7_0 : Tok} {t_VERBS_7_1 : Tok} {t_VERBS_7_2 : Tok} {t_VERBS_7_3 : Tok}
    {c_VERBS_8 : Addr} {od_VERBS_8 : Option Addr} {sl_VERBS_8 : Array (Option Value)} {n_VERBS_8 : Nat} {t_VERBS_8_0 : Tok}
    {c_VERBS_9 : Addr} {od_VERBS_9 : Option Addr} {sl_VERBS_9 : Array (Option Value)} {n_VERBS_9 : Nat} {t_VERBS_9_0 : Tok}
    {c_VERBS_10 : Addr} {od_VERBS_10 : Option Addr} {sl_VERBS_10 : Array (Option Value)} {n_VERBS_10 : Nat} {t_VERBS_10_0 : Tok} {t_VERBS_10_1 : Tok}
    {c_VERBS_11 : Addr} {od_VERBS_11 : Option Addr} {sl_VERBS_11 : Array (Option Value)} {n_VERBS_11 : Nat} {t_VERBS_11_0 : Tok}
    {c_VERBS_12 : Addr} {od_VERBS_12 : Option Addr} {sl_VERBS_12 : Array (Option Value)} {n_VERBS_12 : Nat} {t_VERBS_12_0 : Tok}
    {c_VERBS_13 : Addr} {od_VERBS_13 : Option Addr} {sl_VERBS_13 : Array (Option Value)} {n_VERBS_13 : Nat} {t_VERBS_13_0 : Tok} {t_VERBS_13_1 : Tok} {t_VERBS_13_2 : Tok}
    {c_VERBS_14 : Addr} {od_VERBS_14 : Option Addr} {sl_VERBS_14 : Array (Option Value)} {n_VERBS_14 : Nat} {t_VERBS_14_0 : Tok} {t_VERBS_14_1 : Tok}
    {c_VERBS_15 : Addr} {od_VERBS_15 : Option Addr} {sl_VERBS_15 : Array (Option Value)} {n_VERBS_15 : Nat} {t_VERBS_15_0 : Tok}
    {t_KEY_CHARACTERS : Tok}
    {t_LETTERS : Tok}
    {t_MOST_AMOUNT : Tok}
    {t_MOST_KEY : Tok}
    {t_MOST_NAME : Tok}
    {t_MOST_TEXT : Tok}
    {t_MOST_VALUE : Tok}
    (a_is_printable : PySem.W.nsIn K mainGlobals "is_printable" = some (some (.ref f_is_printable)))
    (l_is_printable : K.lookup f_is_printable = some ⟨oc_is_printable, od_is_printable, .func (PySem.W.fnOf "is_printable" "is_printable" (defArgs s_is_printable) (defBody s_is_printable) (defScope s_is_printable) .none kV_is_printable dc_is_printable pm_is_printable an_is_printable cd_is_printable ct_is_printable), sl_is_printable⟩)
    (e_is_printable : PySem.W.codeIn K cd_is_printable "is_printable" = true)
    (k_is_printable : PySem.W.keepIn K (.ref f_is_printable) = true)
    (a_is_short : PySem.W.nsIn K mainGlobals "is_short" = some (some (.ref f_is_short)))
    (l_is_short : K.lookup f_is_short = some ⟨oc_is_short, od_is_short, .func (PySem.W.fnOf "is_short" "is_short" (defArgs s_is_short) (defBody s_is_short) (defScope s_is_short) .none kV_is_short dc_is_short pm_is_short an_is_short cd_is_short ct_is_short), sl_is_short⟩)
    (e_is_short : PySem.W.codeIn K cd_is_short "is_short" = true)
    (k_is_short : PySem.W.keepIn K (.ref f_is_short) = true)
    (a_is_decimal : PySem.W.nsIn K mainGlobals "is_decimal" = some (some (.ref f_is_decimal)))
    (l_is_decimal : K.lookup f_is_decimal = some ⟨oc_is_decimal, od_is_decimal, .func (PySem.W.fnOf "is_decimal" "is_decimal" (defArgs s_is_decimal) (defBody s_is_decimal) (defScope s_is_decimal) .none kV_is_decimal dc_is_decimal pm_is_decimal an_is_decimal cd_is_decimal ct_is_decimal), sl_is_decimal⟩)
    (e_is_decimal : PySem.W.codeIn K cd_is_decimal "is_decimal" = true)
    (k_is_decimal : PySem.W.keepIn K (.ref f_is_decimal) = true)
    (a_parts_of : PySem.W.nsIn K mainGlobals "parts_of" = some (some (.ref f_parts_of)))
    (l_parts_of : K.lookup f_parts_of = some ⟨oc_parts_of, od_parts_of, .func (PySem.W.fnOf "parts_of" "parts_of" (defArgs s_parts_of) (defBody s_parts_of) (defScope s_parts_of) .none kV_parts_of dc_parts_of pm_parts_of an_parts_of cd_parts_of ct_parts_of), sl_parts_of⟩)
    (e_parts_of : PySem.W.codeIn K cd_parts_of "parts_of" = true)
    (k_parts_of : PySem.W.keepIn K (.ref f_parts_of) = true)
    (a_words_of : PySem.W.nsIn K mainGlobals "words_of" = some (some (.ref f_words_of)))
    (l_words_of : K.lookup f_words_of = some ⟨oc_words_of, od_words_of, .func (PySem.W.fnOf "words_of" "words_of" (defArgs s_words_of) (defBody s_words_of) (defScope s_words_of) .none kV_words_of dc_words_of pm_words_of an_words_of cd_words_of ct_words_of), sl_words_of⟩)
    (e_words_of : PySem.W.codeIn K cd_words_of "words_of" = true)
    (k_words_of : PySem.W.keepIn K (.ref f_words_of) = true)
    (a_is_name : PySem.W.nsIn K mainGlobals "is_name" = some (some (.ref f_is_name)))
    (l_is_name : K.lookup f_is_name = some ⟨oc_is_name, od_is_name, .func (PySem.W.fnOf "is_name" "is_name" (defArgs s_is_name) (defBody s_is_name) (defScope s_is_name) .none kV_is_name dc_is_name pm_is_name an_is_name cd_is_name ct_is_name), sl_is_name⟩)
    (e_is_name : PySem.W.codeIn K cd_is_name "is_name" = true)
    (k_is_name : PySem.W.keepIn K (.ref f_is_name) = true)
    (a_is_key : PySem.W.nsIn K mainGlobals "is_key" = some (some (.ref f_is_key)))
    (l_is_key : K.lookup f_is_key = some ⟨oc_is_key, od_is_key, .func (PySem.W.fnOf "is_key" "is_key" (defArgs s_is_key) (defBody s_is_key) (defScope s_is_key) .none kV_is_key dc_is_key pm_is_key an_is_key cd_is_key ct_is_key), sl_is_key⟩)
    (e_is_key : PySem.W.codeIn K cd_is_key "is_key" = true)
    (k_is_key : PySem.W.keepIn K (.ref f_is_key) = true)
    (a_is_value : PySem.W.nsIn K mainGlobals "is_value" = some (some (.ref f_is_value)))
    (l_is_value : K.lookup f_is_value = some ⟨oc_is_value, od_is_value, .func (PySem.W.fnOf "is_value" "is_value" (defArgs s_is_value) (defBody s_is_value) (defScope s_is_value) .none kV_is_value dc_is_value pm_is_value an_is_value cd_is_value ct_is_value), sl_is_value⟩)
    (e_is_value : PySem.W.codeIn K cd_is_value "is_value" = true)
    (k_is_value : PySem.W.keepIn K (.ref f_is_value) = true)
    (a_is_amount : PySem.W.nsIn K mainGlobals "is_amount" = some (some (.ref f_is_amount)))
    (l_is_amount : K.lookup f_is_amount = some ⟨oc_is_amount, od_is_amount, .func (PySem.W.fnOf "is_amount" "is_amount" (defArgs s_is_amount) (defBody s_is_amount) (defScope s_is_amount) .none kV_is_amount dc_is_amount pm_is_amount an_is_amount cd_is_amount ct_is_amount), sl_is_amount⟩)
    (e_is_amount : PySem.W.codeIn K cd_is_amount "is_amount" = true)
    (k_is_amount : PySem.W.keepIn K (.ref f_is_amount) = true)
    (a_consists_of : PySem.W.nsIn K mainGlobals "consists_of" = some (some (.ref f_consists_of)))
    (l_consists_of : K.lookup f_consists_of = some ⟨oc_consists_of, od_consists_of, .func (PySem.W.fnOf "consists_of" "consists_of" (defArgs s_consists_of) (defBody s_consists_of) (defScope s_consists_of) .none kV_consists_of dc_consists_of pm_consists_of an_consists_of cd_consists_of ct_consists_of), sl_consists_of⟩)
    (e_consists_of : PySem.W.codeIn K cd_consists_of "consists_of" = true)
    (k_consists_of : PySem.W.keepIn K (.ref f_consists_of) = true)
    (a_parse_command : PySem.W.nsIn K mainGlobals "parse_command" = some (some (.ref f_parse_command)))
    (l_parse_command : K.lookup f_parse_command = some ⟨oc_parse_command, od_parse_command, .func (PySem.W.fnOf "parse_command" "parse_command" (defArgs s_parse_command) (defBody s_parse_command) (defScope s_parse_command) .none kV_parse_command dc_parse_command pm_parse_command an_parse_command cd_parse_command ct_parse_command), sl_parse_command⟩)
    (e_parse_command : PySem.W.codeIn K cd_parse_command "parse_command" = true)
    (k_parse_command : PySem.W.keepIn K (.ref f_parse_command) = true)
    (a_parse_statement : PySem.W.nsIn K mainGlobals "parse_statement" = some (some (.ref f_parse_statement)))
    (l_parse_statement : K.lookup f_parse_statement = some ⟨oc_parse_statement, od_parse_statement, .func (PySem.W.fnOf "parse_statement" "parse_statement" (defArgs s_parse_statement) (defBody s_parse_statement) (defScope s_parse_statement) .none kV_parse_statement dc_parse_statement pm_parse_statement an_parse_statement cd_parse_statement ct_parse_statement), sl_parse_statement⟩)
    (e_parse_statement : PySem.W.codeIn K cd_parse_statement "parse_statement" = true)
    (k_parse_statement : PySem.W.keepIn K (.ref f_parse_statement) = true)
    (a_parse_argument : PySem.W.nsIn K mainGlobals "parse_argument" = some (some (.ref f_parse_argument)))
    (l_parse_argument : K.lookup f_parse_argument = some ⟨oc_parse_argument, od_parse_argument, .func (PySem.W.fnOf "parse_argument" "parse_argument" (defArgs s_parse_argument) (defBody s_parse_argument) (defScope s_parse_argument) .none kV_parse_argument dc_parse_argument pm_parse_argument an_parse_argument cd_parse_argument ct_parse_argument), sl_parse_argument⟩)
    (e_parse_argument : PySem.W.codeIn K cd_parse_argument "parse_argument" = true)
    (k_parse_argument : PySem.W.keepIn K (.ref f_parse_argument) = true)
    (a_is_of_kind : PySem.W.nsIn K mainGlobals "is_of_kind" = some (some (.ref f_is_of_kind)))
    (l_is_of_kind : K.lookup f_is_of_kind = some ⟨oc_is_of_kind, od_is_of_kind, .func (PySem.W.fnOf "is_of_kind" "is_of_kind" (defArgs s_is_of_kind) (defBody s_is_of_kind) (defScope s_is_of_kind) .none kV_is_of_kind dc_is_of_kind pm_is_of_kind an_is_of_kind cd_is_of_kind ct_is_of_kind), sl_is_of_kind⟩)
    (e_is_of_kind : PySem.W.codeIn K cd_is_of_kind "is_of_kind" = true)
    (k_is_of_kind : PySem.W.keepIn K (.ref f_is_of_kind) = true)
    (a__law_cell : PySem.W.nsIn K mainGlobals "_law_cell" = some (some (.ref f__law_cell)))
    (l__law_cell : K.lookup f__law_cell = some ⟨oc__law_cell, od__law_cell, .func (PySem.W.fnOf "_law_cell" "_law_cell" (defArgs s__law_cell) (defBody s__law_cell) (defScope s__law_cell) .none kV__law_cell dc__law_cell pm__law_cell an__law_cell cd__law_cell ct__law_cell), sl__law_cell⟩)
    (e__law_cell : PySem.W.codeIn K cd__law_cell "_law_cell" = true)
    (k__law_cell : PySem.W.keepIn K (.ref f__law_cell) = true)
    (a__law_word : PySem.W.nsIn K mainGlobals "_law_word" = some (some (.ref f__law_word)))
    (l__law_word : K.lookup f__law_word = some ⟨oc__law_word, od__law_word, .func (PySem.W.fnOf "_law_word" "_law_word" (defArgs s__law_word) (defBody s__law_word) (defScope s__law_word) .none kV__law_word dc__law_word pm__law_word an__law_word cd__law_word ct__law_word), sl__law_word⟩)
    (e__law_word : PySem.W.codeIn K cd__law_word "_law_word" = true)
    (k__law_word : PySem.W.keepIn K (.ref f__law_word) = true)
    (a__law_all_in : PySem.W.nsIn K mainGlobals "_law_all_in" = some (some (.ref f__law_all_in)))
    (l__law_all_in : K.lookup f__law_all_in = some ⟨oc__law_all_in, od__law_all_in, .func (PySem.W.fnOf "_law_all_in" "_law_all_in" (defArgs s__law_all_in) (defBody s__law_all_in) (defScope s__law_all_in) .none kV__law_all_in dc__law_all_in pm__law_all_in an__law_all_in cd__law_all_in ct__law_all_in), sl__law_all_in⟩)
    (e__law_all_in : PySem.W.codeIn K cd__law_all_in "_law_all_in" = true)
    (k__law_all_in : PySem.W.keepIn K (.ref f__law_all_in) = true)
    (a__law_name : PySem.W.nsIn K mainGlobals "_law_name" = some (some (.ref f__law_name)))
    (l__law_name : K.lookup f__law_name = some ⟨oc__law_name, od__law_name, .func (PySem.W.fnOf "_law_name" "_law_name" (defArgs s__law_name) (defBody s__law_name) (defScope s__law_name) .none kV__law_name dc__law_name pm__law_name an__law_name cd__law_name ct__law_name), sl__law_name⟩)
    (e__law_name : PySem.W.codeIn K cd__law_name "_law_name" = true)
    (k__law_name : PySem.W.keepIn K (.ref f__law_name) = true)
    (a__law_key : PySem.W.nsIn K mainGlobals "_law_key" = some (some (.ref f__law_key)))
    (l__law_key : K.lookup f__law_key = some ⟨oc__law_key, od__law_key, .func (PySem.W.fnOf "_law_key" "_law_key" (defArgs s__law_key) (defBody s__law_key) (defScope s__law_key) .none kV__law_key dc__law_key pm__law_key an__law_key cd__law_key ct__law_key), sl__law_key⟩)
    (e__law_key : PySem.W.codeIn K cd__law_key "_law_key" = true)
    (k__law_key : PySem.W.keepIn K (.ref f__law_key) = true)
    (a__law_value : PySem.W.nsIn K mainGlobals "_law_value" = some (some (.ref f__law_value)))
    (l__law_value : K.lookup f__law_value = some ⟨oc__law_value, od__law_value, .func (PySem.W.fnOf "_law_value" "_law_value" (defArgs s__law_value) (defBody s__law_value) (defScope s__law_value) .none kV__law_value dc__law_value pm__law_value an__law_value cd__law_value ct__law_value), sl__law_value⟩)
    (e__law_value : PySem.W.codeIn K cd__law_value "_law_value" = true)
    (k__law_value : PySem.W.keepIn K (.ref f__law_value) = true)
    (a__law_amount : PySem.W.nsIn K mainGlobals "_law_amount" = some (some (.ref f__law_amount)))
    (l__law_amount : K.lookup f__law_amount = some ⟨oc__law_amount, od__law_amount, .func (PySem.W.fnOf "_law_amount" "_law_amount" (defArgs s__law_amount) (defBody s__law_amount) (defScope s__law_amount) .none kV__law_amount dc__law_amount pm__law_amount an__law_amount cd__law_amount ct__law_amount), sl__law_amount⟩)
    (e__law_amount : PySem.W.codeIn K cd__law_amount "_law_amount" = true)
    (k__law_amount : PySem.W.keepIn K (.ref f__law_amount) = true)
    (a__law_forms : PySem.W.nsIn K mainGlobals "_law_forms" = some (some (.ref f__law_forms)))
    (l__law_forms : K.lookup f__law_forms = some ⟨oc__law_forms, od__law_forms, .func (PySem.W.fnOf "_law_forms" "_law_forms" (defArgs s__law_forms) (defBody s__law_forms) (defScope s__law_forms) .none kV__law_forms dc__law_forms pm__law_forms an__law_forms cd__law_forms ct__law_forms), sl__law_forms⟩)
    (e__law_forms : PySem.W.codeIn K cd__law_forms "_law_forms" = true)
    (k__law_forms : PySem.W.keepIn K (.ref f__law_forms) = true)
    (a__law_statement : PySem.W.nsIn K mainGlobals "_law_statement" = some (some (.ref f__law_statement)))
    (l__law_statement : K.lookup f__law_statement = some ⟨oc__law_statement, od__law_statement, .func (PySem.W.fnOf "_law_statement" "_law_statement" (defArgs s__law_statement) (defBody s__law_statement) (defScope s__law_statement) .none kV__law_statement dc__law_statement pm__law_statement an__law_statement cd__law_statement ct__law_statement), sl__law_statement⟩)
    (e__law_statement : PySem.W.codeIn K cd__law_statement "_law_statement" = true)
    (k__law_statement : PySem.W.keepIn K (.ref f__law_statement) = true)
    (a__law_odd : PySem.W.nsIn K mainGlobals "_law_odd" = some (some (.ref f__law_odd)))
    (l__law_odd : K.lookup f__law_odd = some ⟨oc__law_odd, od__law_odd, .func (PySem.W.fnOf "_law_odd" "_law_odd" (defArgs s__law_odd) (defBody s__law_odd) (defScope s__law_odd) .none kV__law_odd dc__law_odd pm__law_odd an__law_odd cd__law_odd ct__law_odd), sl__law_odd⟩)
    (e__law_odd : PySem.W.codeIn K cd__law_odd "_law_odd" = true)
    (k__law_odd : PySem.W.keepIn K (.ref f__law_odd) = true)
    (a__law_spoilt : PySem.W.nsIn K mainGlobals "_law_spoilt" = some (some (.ref f__law_spoilt)))
    (l__law_spoilt : K.lookup f__law_spoilt = some ⟨oc__law_spoilt, od__law_spoilt, .func (PySem.W.fnOf "_law_spoilt" "_law_spoilt" (defArgs s__law_spoilt) (defBody s__law_spoilt) (defScope s__law_spoilt) .none kV__law_spoilt dc__law_spoilt pm__law_spoilt an__law_spoilt cd__law_spoilt ct__law_spoilt), sl__law_spoilt⟩)
    (e__law_spoilt : PySem.W.codeIn K cd__law_spoilt "_law_spoilt" = true)
    (k__law_spoilt : PySem.W.keepIn K (.ref f__law_spoilt) = true)
    (a__law_built : PySem.W.nsIn K mainGlobals "_law_built" = some (some (.ref f__law_built)))
    (l__law_built : K.lookup f__law_built = some ⟨oc__law_built, od__law_built, .func (PySem.W.fnOf "_law_built" "_law_built" (defArgs s__law_built) (defBody s__law_built) (defScope s__law_built) .none kV__law_built dc__law_built pm__law_built an__law_built cd__law_built ct__law_built), sl__law_built⟩)
    (e__law_built : PySem.W.codeIn K cd__law_built "_law_built" = true)
    (k__law_built : PySem.W.keepIn K (.ref f__law_built) = true)
    (a__law_argument : PySem.W.nsIn K mainGlobals "_law_argument" = some (some (.ref f__law_argument)))
    (l__law_argument : K.lookup f__law_argument = some ⟨oc__law_argument, od__law_argument, .func (PySem.W.fnOf "_law_argument" "_law_argument" (defArgs s__law_argument) (defBody s__law_argument) (defScope s__law_argument) .none kV__law_argument dc__law_argument pm__law_argument an__law_argument cd__law_argument ct__law_argument), sl__law_argument⟩)
    (e__law_argument : PySem.W.codeIn K cd__law_argument "_law_argument" = true)
    (k__law_argument : PySem.W.keepIn K (.ref f__law_argument) = true)
    (a__law_one : PySem.W.nsIn K mainGlobals "_law_one" = some (some (.ref f__law_one)))
    (l__law_one : K.lookup f__law_one = some ⟨oc__law_one, od__law_one, .func (PySem.W.fnOf "_law_one" "_law_one" (defArgs s__law_one) (defBody s__law_one) (defScope s__law_one) .none kV__law_one dc__law_one pm__law_one an__law_one cd__law_one ct__law_one), sl__law_one⟩)
    (e__law_one : PySem.W.codeIn K cd__law_one "_law_one" = true)
    (k__law_one : PySem.W.keepIn K (.ref f__law_one) = true)
    (a__law_due : PySem.W.nsIn K mainGlobals "_law_due" = some (some (.ref f__law_due)))
    (l__law_due : K.lookup f__law_due = some ⟨oc__law_due, od__law_due, .func (PySem.W.fnOf "_law_due" "_law_due" (defArgs s__law_due) (defBody s__law_due) (defScope s__law_due) .none kV__law_due dc__law_due pm__law_due an__law_due cd__law_due ct__law_due), sl__law_due⟩)
    (e__law_due : PySem.W.codeIn K cd__law_due "_law_due" = true)
    (k__law_due : PySem.W.keepIn K (.ref f__law_due) = true)
    (a_law : PySem.W.nsIn K mainGlobals "law" = some (some (.ref f_law)))
    (l_law : K.lookup f_law = some ⟨oc_law, od_law, .func (PySem.W.fnOf "law" "law" (defArgs s_law) (defBody s_law) (defScope s_law) .none kV_law dc_law pm_law an_law cd_law ct_law), sl_law⟩)
    (e_law : PySem.W.codeIn K cd_law "law" = true)
    (k_law : PySem.W.keepIn K (.ref f_law) = true)
    (xa_BadCommand : PySem.W.nsIn K mainGlobals "BadCommand" = some (some (.ref C_BadCommand)))
    (xl_BadCommand : K.lookup C_BadCommand = some (excClassObj nm_BadCommand qn_BadCommand C_BadCommand NN_BadCommand bs_BadCommand bm_BadCommand true sn_BadCommand sub_BadCommand ab_BadCommand col_BadCommand dd_BadCommand m0_BadCommand m1_BadCommand m2_BadCommand m3_BadCommand m5_BadCommand "ValueError.__new__"))
    (xr_BadCommand : PySem.HandSPX.refsVE bm_BadCommand = true)
    (xs_BadCommand : PySem.W.findIn K (.ref C_BadCommand) "__setattr__" = some (some (.builtin "object.__setattr__")))
    (xk_BadCommand : PySem.W.keepIn K (.ref C_BadCommand) = true)
    (xb_BadCommand : PySem.W.subIn K (.ref C_BadCommand) (.type "BaseException") = some true)
    (xt_BadCommand : PySem.W.typeIn K (.ref C_BadCommand) = some (.type "type"))
    (xh_BadCommand : PySem.W.hasDictIn K C_BadCommand = true)
    (xg_BadCommand : PySem.W.findIn K (.ref C_BadCommand) "__getattribute__" = some (some (.builtin "BaseException.__getattribute__")))
    (xq_BadCommand : PySem.W.findIn K (.ref C_BadCommand) "__getattr__" = some none)
    (xn_BadCommand_reason : PySem.W.findIn K (.ref C_BadCommand) "reason" = some none)
    (xn_BadCommand_statement : PySem.W.findIn K (.ref C_BadCommand) "statement" = some none)
    (a_BadCommand____init__ : PySem.W.findIn K (.ref C_BadCommand) "__init__" = some (some (.ref f_BadCommand____init__)))
    (ty_BadCommand____init__ : PySem.W.typeIn K (.ref f_BadCommand____init__) = some (.type "function"))
    (l_BadCommand____init__ : K.lookup f_BadCommand____init__ = some ⟨oc_BadCommand____init__, od_BadCommand____init__, .func (PySem.W.fnOf "__init__" "BadCommand.__init__" (defArgs s_BadCommand____init__) (defBody s_BadCommand____init__) (defScope s_BadCommand____init__) .none kV_BadCommand____init__ dc_BadCommand____init__ pm_BadCommand____init__ an_BadCommand____init__ cd_BadCommand____init__ ct_BadCommand____init__), sl_BadCommand____init__⟩)
    (e_BadCommand____init__ : PySem.W.codeIn K cd_BadCommand____init__ "BadCommand.__init__" = true)
    (k_BadCommand____init__ : PySem.W.keepIn K (.ref f_BadCommand____init__) = true)
    (a_VERBS : PySem.W.nsIn K mainGlobals "VERBS" = some (some (.ref C_VERBS)))
    (l_VERBS : K.lookup C_VERBS = some ⟨.type "dict", none, .dict es_VERBS n_VERBS, #[]⟩)
    (kl_VERBS : PySem.W.KeysLit w.params es_VERBS.toList)
    (lo_VERBS : (C_VERBS == sysModules) = false)
    (v_VERBS_0 : PySem.W.nsIn K C_VERBS "open" = some (some (.ref c_VERBS_0)))
    (l_VERBS_0 : K.lookup c_VERBS_0 = some ⟨.type "tuple", od_VERBS_0, .seq #[.str "name" t_VERBS_0_0] n_VERBS_0, sl_VERBS_0⟩)
    (v_VERBS_1 : PySem.W.nsIn K C_VERBS "close" = some (some (.ref c_VERBS_1)))
    (l_VERBS_1 : K.lookup c_VERBS_1 = some ⟨.type "tuple", od_VERBS_1, .seq #[.str "name" t_VERBS_1_0] n_VERBS_1, sl_VERBS_1⟩)
    (v_VERBS_2 : PySem.W.nsIn K C_VERBS "issue" = some (some (.ref c_VERBS_2)))
    (l_VERBS_2 : K.lookup c_VERBS_2 = some ⟨.type "tuple", od_VERBS_2, .seq #[.str "name" t_VERBS_2_0, .str "amount" t_VERBS_2_1] n_VERBS_2, sl_VERBS_2⟩)
    (v_VERBS_3 : PySem.W.nsIn K C_VERBS "burn" = some (some (.ref c_VERBS_3)))
    (l_VERBS_3 : K.lookup c_VERBS_3 = some ⟨.type "tuple", od_VERBS_3, .seq #[.str "name" t_VERBS_3_0, .str "amount" t_VERBS_3_1] n_VERBS_3, sl_VERBS_3⟩)
    (v_VERBS_4 : PySem.W.nsIn K C_VERBS "pay" = some (some (.ref c_VERBS_4)))
    (l_VERBS_4 : K.lookup c_VERBS_4 = some ⟨.type "tuple", od_VERBS_4, .seq #[.str "name" t_VERBS_4_0, .str "name" t_VERBS_4_1, .str "amount" t_VERBS_4_2] n_VERBS_4, sl_VERBS_4⟩)
    (v_VERBS_5 : PySem.W.nsIn K C_VERBS "balance" = some (some (.ref c_VERBS_5)))
    (l_VERBS_5 : K.lookup c_VERBS_5 = some ⟨.type "tuple", od_VERBS_5, .seq #[.str "name" t_VERBS_5_0] n_VERBS_5, sl_VERBS_5⟩)
    (v_VERBS_6 : PySem.W.nsIn K C_VERBS "atleast" = some (some (.ref c_VERBS_6)))
    (l_VERBS_6 : K.lookup c_VERBS_6 = some ⟨.type "tuple", od_VERBS_6, .seq #[.str "name" t_VERBS_6_0, .str "amount" t_VERBS_6_1] n_VERBS_6, sl_VERBS_6⟩)
    (v_VERBS_7 : PySem.W.nsIn K C_VERBS "hold" = some (some (.ref c_VERBS_7)))
    (l_VERBS_7 : K.lookup c_VERBS_7 = some ⟨.type "tuple", od_VERBS_7, .seq #[.str "name" t_VERBS_7_0, .str "name" t_VERBS_7_1, .str "amount" t_VERBS_7_2, .str "key" t_VERBS_7_3] n_VERBS_7, sl_VERBS_7⟩)
    (v_VERBS_8 : PySem.W.nsIn K C_VERBS "settle" = some (some (.ref c_VERBS_8)))
    (l_VERBS_8 : K.lookup c_VERBS_8 = some ⟨.type "tuple", od_VERBS_8, .seq #[.str "key" t_VERBS_8_0] n_VERBS_8, sl_VERBS_8⟩)
    (v_VERBS_9 : PySem.W.nsIn K C_VERBS "release" = some (some (.ref c_VERBS_9)))
    (l_VERBS_9 : K.lookup c_VERBS_9 = some ⟨.type "tuple", od_VERBS_9, .seq #[.str "key" t_VERBS_9_0] n_VERBS_9, sl_VERBS_9⟩)
    (v_VERBS_10 : PySem.W.nsIn K C_VERBS "put" = some (some (.ref c_VERBS_10)))
    (l_VERBS_10 : K.lookup c_VERBS_10 = some ⟨.type "tuple", od_VERBS_10, .seq #[.str "key" t_VERBS_10_0, .str "value" t_VERBS_10_1] n_VERBS_10, sl_VERBS_10⟩)
    (v_VERBS_11 : PySem.W.nsIn K C_VERBS "get" = some (some (.ref c_VERBS_11)))
    (l_VERBS_11 : K.lookup c_VERBS_11 = some ⟨.type "tuple", od_VERBS_11, .seq #[.str "key" t_VERBS_11_0] n_VERBS_11, sl_VERBS_11⟩)
    (v_VERBS_12 : PySem.W.nsIn K C_VERBS "drop" = some (some (.ref c_VERBS_12)))
    (l_VERBS_12 : K.lookup c_VERBS_12 = some ⟨.type "tuple", od_VERBS_12, .seq #[.str "key" t_VERBS_12_0] n_VERBS_12, sl_VERBS_12⟩)
    (v_VERBS_13 : PySem.W.nsIn K C_VERBS "swap" = some (some (.ref c_VERBS_13)))
    (l_VERBS_13 : K.lookup c_VERBS_13 = some ⟨.type "tuple", od_VERBS_13, .seq #[.str "key" t_VERBS_13_0, .str "value" t_VERBS_13_1, .str "value" t_VERBS_13_2] n_VERBS_13, sl_VERBS_13⟩)
    (v_VERBS_14 : PySem.W.nsIn K C_VERBS "same" = some (some (.ref c_VERBS_14)))
    (l_VERBS_14 : K.lookup c_VERBS_14 = some ⟨.type "tuple", od_VERBS_14, .seq #[.str "key" t_VERBS_14_0, .str "value" t_VERBS_14_1] n_VERBS_14, sl_VERBS_14⟩)
    (v_VERBS_15 : PySem.W.nsIn K C_VERBS "keys" = some (some (.ref c_VERBS_15)))
    (l_VERBS_15 : K.lookup c_VERBS_15 = some ⟨.type "tuple", od_VERBS_15, .seq #[.str "key" t_VERBS_15_0] n_VERBS_15, sl_VERBS_15⟩)
    (ky_VERBS : keysIn ["open", "close", "issue", "burn", "pay", "balance", "atleast", "hold", "settle", "release", "put", "get", "drop", "swap", "same", "keys"] es_VERBS.toList = true)
    (u_BadCommand_BadCommand : PySem.W.subIn K (.ref C_BadCommand) (.ref C_BadCommand) = some true)
    (a_KEY_CHARACTERS : PySem.W.nsIn K mainGlobals "KEY_CHARACTERS" = some (some (.str "abcdefghijklmnopqrstuvwxyz.0123456789" t_KEY_CHARACTERS)))
    (a_LETTERS : PySem.W.nsIn K mainGlobals "LETTERS" = some (some (.str "abcdefghijklmnopqrstuvwxyz" t_LETTERS)))
    (a_MOST_AMOUNT : PySem.W.nsIn K mainGlobals "MOST_AMOUNT" = some (some (.int 12 t_MOST_AMOUNT)))
    (a_MOST_KEY : PySem.W.nsIn K mainGlobals "MOST_KEY" = some (some (.int 20 t_MOST_KEY)))
    (a_MOST_NAME : PySem.W.nsIn K mainGlobals "MOST_NAME" = some (some (.int 12 t_MOST_NAME)))
    (a_MOST_TEXT : PySem.W.nsIn K mainGlobals "MOST_TEXT" = some (some (.int 240 t_MOST_TEXT)))
    (a_MOST_VALUE : PySem.W.nsIn K mainGlobals "MOST_VALUE" = some (some (.int 40 t_MOST_VALUE)))
    (z_all : PySem.W.nsIn K mainGlobals "all" = some none)
    (z_bool : PySem.W.nsIn K mainGlobals "bool" = some none)
    (z_enumerate : PySem.W.nsIn K mainGlobals "enumerate" = some none)
    (z_int : PySem.W.nsIn K mainGlobals "int" = some none)
    (z_isinstance : PySem.W.nsIn K mainGlobals "isinstance" = some none)
    (z_len : PySem.W.nsIn K mainGlobals "len" = some none)
    (z_list : PySem.W.nsIn K mainGlobals "list" = some none)
    (z_range : PySem.W.nsIn K mainGlobals "range" = some none)
    (z_str : PySem.W.nsIn K mainGlobals "str" = some none)
    (z_tuple : PySem.W.nsIn K mainGlobals "tuple" = some none)
    (z_zip : PySem.W.nsIn K mainGlobals "zip" = some none) : Txt K mg w C_BadCommand C_VERBS :=
  { d_is_printable := ⟨_, _, (fun_mk l_is_printable e_is_printable k_is_printable), PySem.W.mg_of X G a_is_printable, ((fun_mk (st := s_is_printable) l_is_printable e_is_printable k_is_printable).binds (ps := ["value"]) fun _ _ _ _ _ _ us hl => match us, hl with | [_], _ => rfl)⟩,
    d_is_short := ⟨_, _, (fun_mk l_is_short e_is_short k_is_short), PySem.W.mg_of X G a_is_short, ((fun_mk (st := s_is_short) l_is_short e_is_short k_is_short).binds (ps := ["value", "most"]) fun _ _ _ _ _ _ us hl => match us, hl with | [_, _], _ => rfl)⟩,
    d_is_decimal := ⟨_, _, (fun_mk l_is_decimal e_is_decimal k_is_decimal), PySem.W.mg_of X G a_is_decimal, ((fun_mk (st := s_is_decimal) l_is_decimal e_is_decimal k_is_decimal).binds (ps := ["word"]) fun _ _ _ _ _ _ us hl => match us, hl with | [_], _ => rfl)⟩,
    d_parts_of := ⟨_, _, (fun_mk l_parts_of e_parts_of k_parts_of), PySem.W.mg_of X G a_parts_of, ((fun_mk (st := s_parts_of) l_parts_of e_parts_of k_parts_of).binds (ps := ["text"]) fun _ _ _ _ _ _ us hl => match us, hl with | [_], _ => rfl)⟩,
    d_words_of := ⟨_, _, (fun_mk l_words_of e_words_of k_words_of), PySem.W.mg_of X G a_words_of, ((fun_mk (st := s_words_of) l_words_of e_words_of k_words_of).binds (ps := ["part", "index"]) fun _ _ _ _ _ _ us hl => match us, hl with | [_, _], _ => rfl)⟩,
    d_is_name := ⟨_, _, (fun_mk l_is_name e_is_name k_is_name), PySem.W.mg_of X G a_is_name, ((fun_mk (st := s_is_name) l_is_name e_is_name k_is_name).binds (ps := ["word"]) fun _ _ _ _ _ _ us hl => match us, hl with | [_], _ => rfl)⟩,
    d_is_key := ⟨_, _, (fun_mk l_is_key e_is_key k_is_key), PySem.W.mg_of X G a_is_key, ((fun_mk (st := s_is_key) l_is_key e_is_key k_is_key).binds (ps := ["word"]) fun _ _ _ _ _ _ us hl => match us, hl with | [_], _ => rfl)⟩,
    d_is_value := ⟨_, _, (fun_mk l_is_value e_is_value k_is_value), PySem.W.mg_of X G a_is_value, ((fun_mk (st := s_is_value) l_is_value e_is_value k_is_value).binds (ps := ["word"]) fun _ _ _ _ _ _ us hl => match us, hl with | [_], _ => rfl)⟩,
    d_is_amount := ⟨_, _, (fun_mk l_is_amount e_is_amount k_is_amount), PySem.W.mg_of X G a_is_amount, ((fun_mk (st := s_is_amount) l_is_amount e_is_amount k_is_amount).binds (ps := ["word"]) fun _ _ _ _ _ _ us hl => match us, hl with | [_], _ => rfl)⟩,
    d_consists_of := ⟨_, _, (fun_mk l_consists_of e_consists_of k_consists_of), PySem.W.mg_of X G a_consists_of, ((fun_mk (st := s_consists_of) l_consists_of e_consists_of k_consists_of).binds (ps := ["word", "characters", "most"]) fun _ _ _ _ _ _ us hl => match us, hl with | [_, _, _], _ => rfl)⟩,
    d_parse_command := ⟨_, _, (fun_mk l_parse_command e_parse_command k_parse_command), PySem.W.mg_of X G a_parse_command, ((fun_mk (st := s_parse_command) l_parse_command e_parse_command k_parse_command).binds (ps := ["text"]) fun _ _ _ _ _ _ us hl => match us, hl with | [_], _ => rfl)⟩,
    d_parse_statement := ⟨_, _, (fun_mk l_parse_statement e_parse_statement k_parse_statement), PySem.W.mg_of X G a_parse_statement, ((fun_mk (st := s_parse_statement) l_parse_statement e_parse_statement k_parse_statement).binds (ps := ["part", "index"]) fun _ _ _ _ _ _ us hl => match us, hl with | [_, _], _ => rfl)⟩,
    d_parse_argument := ⟨_, _, (fun_mk l_parse_argument e_parse_argument k_parse_argument), PySem.W.mg_of X G a_parse_argument, ((fun_mk (st := s_parse_argument) l_parse_argument e_parse_argument k_parse_argument).binds (ps := ["kind", "word", "index"]) fun _ _ _ _ _ _ us hl => match us, hl with | [_, _, _], _ => rfl)⟩,
    d_is_of_kind := ⟨_, _, (fun_mk l_is_of_kind e_is_of_kind k_is_of_kind), PySem.W.mg_of X G a_is_of_kind, ((fun_mk (st := s_is_of_kind) l_is_of_kind e_is_of_kind k_is_of_kind).binds (ps := ["kind", "word"]) fun _ _ _ _ _ _ us hl => match us, hl with | [_, _], _ => rfl)⟩,
    d__law_cell := ⟨_, _, (fun_mk l__law_cell e__law_cell k__law_cell), PySem.W.mg_of X G a__law_cell, ((fun_mk (st := s__law_cell) l__law_cell e__law_cell k__law_cell).binds (ps := ["script", "k"]) fun _ _ _ _ _ _ us hl => match us, hl with | [_, _], _ => rfl)⟩,
    d__law_word := ⟨_, _, (fun_mk l__law_word e__law_word k__law_word), PySem.W.mg_of X G a__law_word, ((fun_mk (st := s__law_word) l__law_word e__law_word k__law_word).binds (ps := ["size", "chars", "seed", "step"]) fun _ _ _ _ _ _ us hl => match us, hl with | [_, _, _, _], _ => rfl)⟩,
    d__law_all_in := ⟨_, _, (fun_mk l__law_all_in e__law_all_in k__law_all_in), PySem.W.mg_of X G a__law_all_in, ((fun_mk (st := s__law_all_in) l__law_all_in e__law_all_in k__law_all_in).binds (ps := ["word", "chars"]) fun _ _ _ _ _ _ us hl => match us, hl with | [_, _], _ => rfl)⟩,
    d__law_name := ⟨_, _, (fun_mk l__law_name e__law_name k__law_name), PySem.W.mg_of X G a__law_name, ((fun_mk (st := s__law_name) l__law_name e__law_name k__law_name).binds (ps := ["cell"]) fun _ _ _ _ _ _ us hl => match us, hl with | [_], _ => rfl)⟩,
    d__law_key := ⟨_, _, (fun_mk l__law_key e__law_key k__law_key), PySem.W.mg_of X G a__law_key, ((fun_mk (st := s__law_key) l__law_key e__law_key k__law_key).binds (ps := ["cell"]) fun _ _ _ _ _ _ us hl => match us, hl with | [_], _ => rfl)⟩,
    d__law_value := ⟨_, _, (fun_mk l__law_value e__law_value k__law_value), PySem.W.mg_of X G a__law_value, ((fun_mk (st := s__law_value) l__law_value e__law_value k__law_value).binds (ps := ["cell"]) fun _ _ _ _ _ _ us hl => match us, hl with | [_], _ => rfl)⟩,
    d__law_amount := ⟨_, _, (fun_mk l__law_amount e__law_amount k__law_amount), PySem.W.mg_of X G a__law_amount, ((fun_mk (st := s__law_amount) l__law_amount e__law_amount k__law_amount).binds (ps := ["cell"]) fun _ _ _ _ _ _ us hl => match us, hl with | [_], _ => rfl)⟩,
    d__law_forms := ⟨_, _, (fun_mk l__law_forms e__law_forms k__law_forms), PySem.W.mg_of X G a__law_forms, ((fun_mk (st := s__law_forms) l__law_forms e__law_forms k__law_forms).binds (ps := []) fun _ _ _ _ _ _ us hl => match us, hl with | [], _ => rfl)⟩,
    d__law_statement := ⟨_, _, (fun_mk l__law_statement e__law_statement k__law_statement), PySem.W.mg_of X G a__law_statement, ((fun_mk (st := s__law_statement) l__law_statement e__law_statement k__law_statement).binds (ps := ["verb_cell", "first", "second"]) fun _ _ _ _ _ _ us hl => match us, hl with | [_, _, _], _ => rfl)⟩,
    d__law_odd := ⟨_, _, (fun_mk l__law_odd e__law_odd k__law_odd), PySem.W.mg_of X G a__law_odd, ((fun_mk (st := s__law_odd) l__law_odd e__law_odd k__law_odd).binds (ps := ["cell"]) fun _ _ _ _ _ _ us hl => match us, hl with | [_], _ => rfl)⟩,
    d__law_spoilt := ⟨_, _, (fun_mk l__law_spoilt e__law_spoilt k__law_spoilt), PySem.W.mg_of X G a__law_spoilt, ((fun_mk (st := s__law_spoilt) l__law_spoilt e__law_spoilt k__law_spoilt).binds (ps := ["words", "cell"]) fun _ _ _ _ _ _ us hl => match us, hl with | [_, _], _ => rfl)⟩,
    d__law_built := ⟨_, _, (fun_mk l__law_built e__law_built k__law_built), PySem.W.mg_of X G a__law_built, ((fun_mk (st := s__law_built) l__law_built e__law_built k__law_built).binds (ps := ["script"]) fun _ _ _ _ _ _ us hl => match us, hl with | [_], _ => rfl)⟩,
    d__law_argument := ⟨_, _, (fun_mk l__law_argument e__law_argument k__law_argument), PySem.W.mg_of X G a__law_argument, ((fun_mk (st := s__law_argument) l__law_argument e__law_argument k__law_argument).binds (ps := ["kind", "word"]) fun _ _ _ _ _ _ us hl => match us, hl with | [_, _], _ => rfl)⟩,
    d__law_one := ⟨_, _, (fun_mk l__law_one e__law_one k__law_one), PySem.W.mg_of X G a__law_one, ((fun_mk (st := s__law_one) l__law_one e__law_one k__law_one).binds (ps := ["part"]) fun _ _ _ _ _ _ us hl => match us, hl with | [_], _ => rfl)⟩,
    d__law_due := ⟨_, _, (fun_mk l__law_due e__law_due k__law_due), PySem.W.mg_of X G a__law_due, ((fun_mk (st := s__law_due) l__law_due e__law_due k__law_due).binds (ps := ["text"]) fun _ _ _ _ _ _ us hl => match us, hl with | [_], _ => rfl)⟩,
    d_law := ⟨_, _, (fun_mk l_law e_law k_law), PySem.W.mg_of X G a_law, ((fun_mk (st := s_law) l_law e_law k_law).binds (ps := ["script"]) fun _ _ _ _ _ _ us hl => match us, hl with | [_], _ => rfl)⟩,
    x_BadCommand := ⟨PySem.W.mg_of X G xa_BadCommand, ⟨⟨_, _, _, _, _, _, _, _, _, _, _, _, _, _, _, xl_BadCommand, xr_BadCommand⟩, xs_BadCommand, xb_BadCommand, xt_BadCommand, xk_BadCommand⟩, ⟨xg_BadCommand, xq_BadCommand, xb_BadCommand, xh_BadCommand⟩⟩,
    xn_BadCommand_reason := xn_BadCommand_reason,
    xn_BadCommand_statement := xn_BadCommand_statement,
    ei_BadCommand := ⟨_, _, a_BadCommand____init__, ty_BadCommand____init__, (fun_mk l_BadCommand____init__ e_BadCommand____init__ k_BadCommand____init__), ((fun_mk (st := s_BadCommand____init__) l_BadCommand____init__ e_BadCommand____init__ k_BadCommand____init__).binds (ps := ["self", "reason", "statement"]) fun _ _ _ _ _ _ us hl => match us, hl with | [_, _, _], _ => rfl)⟩,
    g_VERBS := PySem.W.mg_of X G a_VERBS,
    kd_VERBS := ⟨_, _, ⟨l_VERBS, kl_VERBS, lo_VERBS⟩⟩,
    ki_VERBS_0 := ⟨_, ⟨_, _, _, l_VERBS, kl_VERBS, v_VERBS_0, rfl⟩, ⟨_, _, _, l_VERBS_0, rfl, rfl, sz1000 (Nat.le_of_ble_eq_true rfl), (.cons ⟨_, rfl⟩ .nil)⟩⟩,
    ki_VERBS_1 := ⟨_, ⟨_, _, _, l_VERBS, kl_VERBS, v_VERBS_1, rfl⟩, ⟨_, _, _, l_VERBS_1, rfl, rfl, sz1000 (Nat.le_of_ble_eq_true rfl), (.cons ⟨_, rfl⟩ .nil)⟩⟩,
    ki_VERBS_2 := ⟨_, ⟨_, _, _, l_VERBS, kl_VERBS, v_VERBS_2, rfl⟩, ⟨_, _, _, l_VERBS_2, rfl, rfl, sz1000 (Nat.le_of_ble_eq_true rfl), (.cons ⟨_, rfl⟩ (.cons ⟨_, rfl⟩ .nil))⟩⟩,
    ki_VERBS_3 := ⟨_, ⟨_, _, _, l_VERBS, kl_VERBS, v_VERBS_3, rfl⟩, ⟨_, _, _, l_VERBS_3, rfl, rfl, sz1000 (Nat.le_of_ble_eq_true rfl), (.cons ⟨_, rfl⟩ (.cons ⟨_, rfl⟩ .nil))⟩⟩,
    ki_VERBS_4 := ⟨_, ⟨_, _, _, l_VERBS, kl_VERBS, v_VERBS_4, rfl⟩, ⟨_, _, _, l_VERBS_4, rfl, rfl, sz1000 (Nat.le_of_ble_eq_true rfl), (.cons ⟨_, rfl⟩ (.cons ⟨_, rfl⟩ (.cons ⟨_, rfl⟩ .nil)))⟩⟩,
    ki_VERBS_5 := ⟨_, ⟨_, _, _, l_VERBS, kl_VERBS, v_VERBS_5, rfl⟩, ⟨_, _, _, l_VERBS_5, rfl, rfl, sz1000 (Nat.le_of_ble_eq_true rfl), (.cons ⟨_, rfl⟩ .nil)⟩⟩,
    ki_VERBS_6 := ⟨_, ⟨_, _, _, l_VERBS, kl_VERBS, v_VERBS_6, rfl⟩, ⟨_, _, _, l_VERBS_6, rfl, rfl, sz1000 (Nat.le_of_ble_eq_true rfl), (.cons ⟨_, rfl⟩ (.cons ⟨_, rfl⟩ .nil))⟩⟩,
    ki_VERBS_7 := ⟨_, ⟨_, _, _, l_VERBS, kl_VERBS, v_VERBS_7, rfl⟩, ⟨_, _, _, l_VERBS_7, rfl, rfl, sz1000 (Nat.le_of_ble_eq_true rfl), (.cons ⟨_, rfl⟩ (.cons ⟨_, rfl⟩ (.cons ⟨_, rfl⟩ (.cons ⟨_, rfl⟩ .nil))))⟩⟩,
    ki_VERBS_8 := ⟨_, ⟨_, _, _, l_VERBS, kl_VERBS, v_VERBS_8, rfl⟩, ⟨_, _, _, l_VERBS_8, rfl, rfl, sz1000 (Nat.le_of_ble_eq_true rfl), (.cons ⟨_, rfl⟩ .nil)⟩⟩,
    ki_VERBS_9 := ⟨_, ⟨_, _, _, l_VERBS, kl_VERBS, v_VERBS_9, rfl⟩, ⟨_, _, _, l_VERBS_9, rfl, rfl, sz1000 (Nat.le_of_ble_eq_true rfl), (.cons ⟨_, rfl⟩ .nil)⟩⟩,
    ki_VERBS_10 := ⟨_, ⟨_, _, _, l_VERBS, kl_VERBS, v_VERBS_10, rfl⟩, ⟨_, _, _, l_VERBS_10, rfl, rfl, sz1000 (Nat.le_of_ble_eq_true rfl), (.cons ⟨_, rfl⟩ (.cons ⟨_, rfl⟩ .nil))⟩⟩,
    ki_VERBS_11 := ⟨_, ⟨_, _, _, l_VERBS, kl_VERBS, v_VERBS_11, rfl⟩, ⟨_, _, _, l_VERBS_11, rfl, rfl, sz1000 (Nat.le_of_ble_eq_true rfl), (.cons ⟨_, rfl⟩ .nil)⟩⟩,
    ki_VERBS_12 := ⟨_, ⟨_, _, _, l_VERBS, kl_VERBS, v_VERBS_12, rfl⟩, ⟨_, _, _, l_VERBS_12, rfl, rfl, sz1000 (Nat.le_of_ble_eq_true rfl), (.cons ⟨_, rfl⟩ .nil)⟩⟩,
    ki_VERBS_13 := ⟨_, ⟨_, _, _, l_VERBS, kl_VERBS, v_VERBS_13, rfl⟩, ⟨_, _, _, l_VERBS_13, rfl, rfl, sz1000 (Nat.le_of_ble_eq_true rfl), (.cons ⟨_, rfl⟩ (.cons ⟨_, rfl⟩ (.cons ⟨_, rfl⟩ .nil)))⟩⟩,
    ki_VERBS_14 := ⟨_, ⟨_, _, _, l_VERBS, kl_VERBS, v_VERBS_14, rfl⟩, ⟨_, _, _, l_VERBS_14, rfl, rfl, sz1000 (Nat.le_of_ble_eq_true rfl), (.cons ⟨_, rfl⟩ (.cons ⟨_, rfl⟩ .nil))⟩⟩,
    ki_VERBS_15 := ⟨_, ⟨_, _, _, l_VERBS, kl_VERBS, v_VERBS_15, rfl⟩, ⟨_, _, _, l_VERBS_15, rfl, rfl, sz1000 (Nat.le_of_ble_eq_true rfl), (.cons ⟨_, rfl⟩ .nil)⟩⟩,
    kn_VERBS := fun z hz => nsIn_none l_VERBS ky_VERBS hz,
    u_BadCommand_BadCommand := u_BadCommand_BadCommand,
    c_KEY_CHARACTERS := ⟨_, PySem.W.mg_of X G a_KEY_CHARACTERS, _, rfl⟩,
    c_LETTERS := ⟨_, PySem.W.mg_of X G a_LETTERS, _, rfl⟩,
    c_MOST_AMOUNT := ⟨_, PySem.W.mg_of X G a_MOST_AMOUNT, _, rfl⟩,
    c_MOST_KEY := ⟨_, PySem.W.mg_of X G a_MOST_KEY, _, rfl⟩,
    c_MOST_NAME := ⟨_, PySem.W.mg_of X G a_MOST_NAME, _, rfl⟩,
    c_MOST_TEXT := ⟨_, PySem.W.mg_of X G a_MOST_TEXT, _, rfl⟩,
    c_MOST_VALUE := ⟨_, PySem.W.mg_of X G a_MOST_VALUE, _, rfl⟩,
    z_all := PySem.W.mg_none_of X G z_all,
    z_bool := PySem.W.mg_none_of X G z_bool,
    z_enumerate := PySem.W.mg_none_of X G z_enumerate,
    z_int := PySem.W.mg_none_of X G z_int,
    z_isinstance := PySem.W.mg_none_of X G z_isinstance,
    z_len := PySem.W.mg_none_of X G z_len,
    z_list := PySem.W.mg_none_of X G z_list,
    z_range := PySem.W.mg_none_of X G z_range,
    z_str := PySem.W.mg_none_of X G z_str,
    z_tuple := PySem.W.mg_none_of X G z_tuple,
    z_zip := PySem.W.mg_none_of X G z_zip }
end Law
open PySem PySem.W PyProof.Rows
set_option maxRecDepth 100000 in
set_option maxHeartbeats 0 in
theorem PySem.Challenge.cw_oathledger_k43_parse_command_holds : PySem.Challenge.rw_oathledger_k43_parse_command.Holds := by
  w_on; o_law; k_head; (case hw => w_witness2)
  k_fill
  refine L2.walk_of (l := PySem.Challenge.rw_oathledger_k43_parse_command) (n := 63) (k := 8) (x := "script") (CX := fun _ => L2.CX0) (sp := fun w => Law.spLaw _) rfl (by decide) rfl ⟨rfl, by decide, by decide⟩ (fun w h Y => PySem.W.kIn_of Y) ?F (fun _ _ a ns hl _ hS => ⟨a, ns, rfl, hS, hl, fun _ => rfl⟩) (fun _ _ _ _ _ h => h)
  case F =>
    intro w mg fa h KX G hmg
    refine' Law.fin hmg (Law.all_mk KX G ?a_is_printable ?l_is_printable ?e_is_printable ?k_is_printable ?a_is_short ?l_is_short ?e_is_short ?k_is_short ?a_is_decimal ?l_is_decimal ?e_is_decimal ?k_is_decimal ?a_parts_of ?l_parts_of ?e_parts_of ?k_parts_of ?a_words_of ?l_words_of ?e_words_of ?k_words_of ?a_is_name ?l_is_name ?e_is_name ?k_is_name ?a_is_key ?l_is_key ?e_is_key ?k_is_key ?a_is_value ?l_is_value ?e_is_value ?k_is_value ?a_is_amount ?l_is_amount ?e_is_amount ?k_is_amount ?a_consists_of ?l_consists_of ?e_consists_of ?k_consists_of ?a_parse_command ?l_parse_command ?e_parse_command ?k_parse_command ?a_parse_statement ?l_parse_statement ?e_parse_statement ?k_parse_statement ?a_parse_argument ?l_parse_argument ?e_parse_argument ?k_parse_argument ?a_is_of_kind ?l_is_of_kind ?e_is_of_kind ?k_is_of_kind ?a__law_cell ?l__law_cell ?e__law_cell ?k__law_cell ?a__law_word ?l__law_word ?e__law_word ?k__law_word ?a__law_all_in ?l__law_all_in ?e__law_all_in ?k__law_all_in ?a__law_name ?l__law_name ?e__law_name ?k__law_name ?a__law_key ?l__law_key ?e__law_key ?k__law_key ?a__law_value ?l__law_value ?e__law_value ?k__law_value ?a__law_amount ?l__law_amount ?e__law_amount ?k__law_amount ?a__law_forms ?l__law_forms ?e__law_forms ?k__law_forms ?a__law_statement ?l__law_statement ?e__law_statement ?k__law_statement ?a__law_odd ?l__law_odd ?e__law_odd ?k__law_odd ?a__law_spoilt ?l__law_spoilt ?e__law_spoilt ?k__law_spoilt ?a__law_built ?l__law_built ?e__law_built ?k__law_built ?a__law_argument ?l__law_argument ?e__law_argument ?k__law_argument ?a__law_one ?l__law_one ?e__law_one ?k__law_one ?a__law_due ?l__law_due ?e__law_due ?k__law_due ?a_law ?l_law ?e_law ?k_law ?xa_BadCommand ?xl_BadCommand ?xr_BadCommand ?xs_BadCommand ?xk_BadCommand ?xb_BadCommand ?xt_BadCommand ?xh_BadCommand ?xg_BadCommand ?xq_BadCommand ?xn_BadCommand_reason ?xn_BadCommand_statement ?a_BadCommand____init__ ?ty_BadCommand____init__ ?l_BadCommand____init__ ?e_BadCommand____init__ ?k_BadCommand____init__ ?a_VERBS ?l_VERBS ?kl_VERBS ?lo_VERBS ?v_VERBS_0 ?l_VERBS_0 ?v_VERBS_1 ?l_VERBS_1 ?v_VERBS_2 ?l_VERBS_2 ?v_VERBS_3 ?l_VERBS_3 ?v_VERBS_4 ?l_VERBS_4 ?v_VERBS_5 ?l_VERBS_5 ?v_VERBS_6 ?l_VERBS_6 ?v_VERBS_7 ?l_VERBS_7 ?v_VERBS_8 ?l_VERBS_8 ?v_VERBS_9 ?l_VERBS_9 ?v_VERBS_10 ?l_VERBS_10 ?v_VERBS_11 ?l_VERBS_11 ?v_VERBS_12 ?l_VERBS_12 ?v_VERBS_13 ?l_VERBS_13 ?v_VERBS_14 ?l_VERBS_14 ?v_VERBS_15 ?l_VERBS_15 ?ky_VERBS ?u_BadCommand_BadCommand ?a_KEY_CHARACTERS ?a_LETTERS ?a_MOST_AMOUNT ?a_MOST_KEY ?a_MOST_NAME ?a_MOST_TEXT ?a_MOST_VALUE ?z_all ?z_bool ?z_enumerate ?z_int ?z_isinstance ?z_len ?z_list ?z_range ?z_str ?z_tuple ?z_zip)
    (case a_is_printable => k_is)
    (case l_is_printable => k_is)
    (case e_is_printable => k_is)
    (case k_is_printable => k_is)
    (case a_is_short => k_is)
    (case l_is_short => k_is)
    (case e_is_short => k_is)
    (case k_is_short => k_is)
    (case a_is_decimal => k_is)
    (case l_is_decimal => k_is)
    (case e_is_decimal => k_is)
    (case k_is_decimal => k_is)
    (case a_parts_of => k_is)
    (case l_parts_of => k_is)
    (case e_parts_of => k_is)
    (case k_parts_of => k_is)
    (case a_words_of => k_is)
    (case l_words_of => k_is)
    (case e_words_of => k_is)
    (case k_words_of => k_is)
    (case a_is_name => k_is)
    (case l_is_name => k_is)
    (case e_is_name => k_is)
    (case k_is_name => k_is)
    (case a_is_key => k_is)
    (case l_is_key => k_is)
    (case e_is_key => k_is)
    (case k_is_key => k_is)
    (case a_is_value => k_is)
    (case l_is_value => k_is)
    (case e_is_value => k_is)
    (case k_is_value => k_is)
    (case a_is_amount => k_is)
    (case l_is_amount => k_is)
    (case e_is_amount => k_is)
    (case k_is_amount => k_is)
    (case a_consists_of => k_is)
    (case l_consists_of => k_is)
    (case e_consists_of => k_is)
    (case k_consists_of => k_is)
    (case a_parse_command => k_is)
    (case l_parse_command => k_is)
    (case e_parse_command => k_is)
    (case k_parse_command => k_is)
    (case a_parse_statement => k_is)
    (case l_parse_statement => k_is)
    (case e_parse_statement => k_is)
    (case k_parse_statement => k_is)
    (case a_parse_argument => k_is)
    (case l_parse_argument => k_is)
    (case e_parse_argument => k_is)
    (case k_parse_argument => k_is)
    (case a_is_of_kind => k_is)
    (case l_is_of_kind => k_is)
    (case e_is_of_kind => k_is)
    (case k_is_of_kind => k_is)
    (case a__law_cell => k_is)
    (case l__law_cell => k_is)
    (case e__law_cell => k_is)
    (case k__law_cell => k_is)
    (case a__law_word => k_is)
    (case l__law_word => k_is)
    (case e__law_word => k_is)
    (case k__law_word => k_is)
    (case a__law_all_in => k_is)
    (case l__law_all_in => k_is)
    (case e__law_all_in => k_is)
    (case k__law_all_in => k_is)
    (case a__law_name => k_is)
    (case l__law_name => k_is)
    (case e__law_name => k_is)
    (case k__law_name => k_is)
    (case a__law_key => k_is)
    (case l__law_key => k_is)
    (case e__law_key => k_is)
    (case k__law_key => k_is)
    (case a__law_value => k_is)
    (case l__law_value => k_is)
    (case e__law_value => k_is)
    (case k__law_value => k_is)
    (case a__law_amount => k_is)
    (case l__law_amount => k_is)
    (case e__law_amount => k_is)
    (case k__law_amount => k_is)
    (case a__law_forms => k_is)
    (case l__law_forms => k_is)
    (case e__law_forms => k_is)
    (case k__law_forms => k_is)
    (case a__law_statement => k_is)
    (case l__law_statement => k_is)
    (case e__law_statement => k_is)
    (case k__law_statement => k_is)
    (case a__law_odd => k_is)
    (case l__law_odd => k_is)
    (case e__law_odd => k_is)
    (case k__law_odd => k_is)
    (case a__law_spoilt => k_is)
    (case l__law_spoilt => k_is)
    (case e__law_spoilt => k_is)
    (case k__law_spoilt => k_is)
    (case a__law_built => k_is)
    (case l__law_built => k_is)
    (case e__law_built => k_is)
    (case k__law_built => k_is)
    (case a__law_argument => k_is)
    (case l__law_argument => k_is)
    (case e__law_argument => k_is)
    (case k__law_argument => k_is)
    (case a__law_one => k_is)
    (case l__law_one => k_is)
    (case e__law_one => k_is)
    (case k__law_one => k_is)
    (case a__law_due => k_is)
    (case l__law_due => k_is)
    (case e__law_due => k_is)
    (case k__law_due => k_is)
    (case a_law => k_is)
    (case l_law => k_is)
    (case e_law => k_is)
    (case k_law => k_is)
    (case xa_BadCommand => k_is)
    (case xl_BadCommand => k_is)
    (case xr_BadCommand => decide +kernel)
    (case xs_BadCommand => k_is)
    (case xk_BadCommand => k_is)
    (case xb_BadCommand => k_is)
    (case xt_BadCommand => k_is)
    (case xh_BadCommand => k_is)
    (case xg_BadCommand => k_is)
    (case xq_BadCommand => k_is)
    (case xn_BadCommand_reason => k_is)
    (case xn_BadCommand_statement => k_is)
    (case a_BadCommand____init__ => k_is)
    (case ty_BadCommand____init__ => k_is)
    (case l_BadCommand____init__ => k_is)
    (case e_BadCommand____init__ => k_is)
    (case k_BadCommand____init__ => k_is)
    (case a_VERBS => k_is)
    (case l_VERBS => k_is)
    (case kl_VERBS => k_keys)
    (case lo_VERBS => decide)
    (case v_VERBS_0 => k_is)
    (case l_VERBS_0 => k_is)
    (case v_VERBS_1 => k_is)
    (case l_VERBS_1 => k_is)
    (case v_VERBS_2 => k_is)
    (case l_VERBS_2 => k_is)
    (case v_VERBS_3 => k_is)
    (case l_VERBS_3 => k_is)
    (case v_VERBS_4 => k_is)
    (case l_VERBS_4 => k_is)
    (case v_VERBS_5 => k_is)
    (case l_VERBS_5 => k_is)
    (case v_VERBS_6 => k_is)
    (case l_VERBS_6 => k_is)
    (case v_VERBS_7 => k_is)
    (case l_VERBS_7 => k_is)
    (case v_VERBS_8 => k_is)
    (case l_VERBS_8 => k_is)
    (case v_VERBS_9 => k_is)
    (case l_VERBS_9 => k_is)
    (case v_VERBS_10 => k_is)
    (case l_VERBS_10 => k_is)
    (case v_VERBS_11 => k_is)
    (case l_VERBS_11 => k_is)
    (case v_VERBS_12 => k_is)
    (case l_VERBS_12 => k_is)
    (case v_VERBS_13 => k_is)
    (case l_VERBS_13 => k_is)
    (case v_VERBS_14 => k_is)
    (case l_VERBS_14 => k_is)
    (case v_VERBS_15 => k_is)
    (case l_VERBS_15 => k_is)
    (case ky_VERBS => first | decide +kernel | rfl | with_unfolding_all rfl)
    (case u_BadCommand_BadCommand => k_is)
    (case a_KEY_CHARACTERS => k_is)
    (case a_LETTERS => k_is)
    (case a_MOST_AMOUNT => k_is)
    (case a_MOST_KEY => k_is)
    (case a_MOST_NAME => k_is)
    (case a_MOST_TEXT => k_is)
    (case a_MOST_VALUE => k_is)
    (case z_all => k_is)
    (case z_bool => k_is)
    (case z_enumerate => k_is)
    (case z_int => k_is)
    (case z_isinstance => k_is)
    (case z_len => k_is)
    (case z_list => k_is)
    (case z_range => k_is)
    (case z_str => k_is)
    (case z_tuple => k_is)
    (case z_zip => k_is)

