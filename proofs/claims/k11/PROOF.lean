--@isany
--@omega
--@fnd FORMS vouch=holds_vouch propose=holds_block vote=holds_block ready=holds_block claim=holds_claim give=holds_give command=holds_request answer=holds_answer
import PyProof.Rows.All
import Wide.All
import OpenK.AllK
import Wide.FinOn
import HandS.ForMost
import HandS.Walk
import HandS.Flow
import HandS.Codes
import HandS.IsInst
import HandS.Conv
import HandS.StrMore
import PyProof.MeetsSeq2
import PyProof.DictTable
import HandS.Wide
import HandS.TupAny
import HandS.More
import HandS.Dict
import HandS.ForExc
import HandS.ExcIs
import HandS.ExcField
import HandS.DeepEq
import HandS.TupLe
import HandS.Steps
import HandS.ExcInit
import HandS.HotCalls
import HandS.TryMany
import HandS.FStr
import HandS.WideBits
import HandS.SortRule
import HandS.SortKw
import HandS.Keys
import KE.SortKeyHeap
import KE.DataMinMax
import KE.SortData
import HandS.RaiseMore
import HandS.Zip
import HandS.DictSubView
import HandS.Deep
import HandS.Sort
import HandS.SetKeys
import HandS.Strs
import HandS.SetFor
import HandS.DictComp
import HandS.Style
import PySem.Challenge.RW_oathledger_k11_packets
set_option Elab.async false
set_option linter.all false
set_option maxRecDepth 100000
set_option maxHeartbeats 4000000
namespace Law
open PySem PySem.Spec PyProof.Rows L2
open C8 (Cal Met Mak pe_c pe_mk pe_mt pe_mt0 pe_gc pss_cut tCut)
/-! ### a def of the top, by its name -/
structure DefOk (K : PySem.W.Frag) (mg : Str → Option Value) (x : Str) (st : Stmt) (ps : List Str) : Prop where
  ex : ∃ (f : Addr) (fd : FuncData), L2.Fun K x x st f fd ∧ mg x = some (.ref f) ∧ Binds K fd ps []
section
variable {P : Program} {w : World} {K : PySem.W.Frag} {mg : Str → Option Value} {base : Heap}
/-- a def's promise, by its body -/
theorem cal {x : Str} {st : Stmt} {N ps : List Str} {k : Nat} {sp : Sp} (D : DefOk K mg x st ps) (S : FnScope N ps (defScope st)) (len : ∀ vs H Q E, sp vs H Q E → vs.length = ps.length)
    (hbody : ∀ (f : Addr) (cdv : Value) (A : Around) (outer : List Env) (s : Shared) (H : Hp) (vs : List V) (Q : VK) (E : XK), Room k (A.deeper (envOfC x (defScope st) s.heap.objs.size f cdv)) → sp vs H Q E →
      ∃ t, PSs (cxOf L2.CX0 P w K mg base N x (defScope st) f cdv A outer s H E).nox (defBody st) t ∧ t { nx := fun _ H' => Q .non H', rt := Q } (start N vs) H) : Cal P w K mg base (k + 1) x sp [] := by
  obtain ⟨f, fd, F, hm, b⟩ := D.ex
  exact ⟨f, fd, ps, [], F.ok S len (fun cdv A outer s H vs Q E hr h => hbody f cdv A outer s H vs Q E hr h), hm, F.kp, b, .nil⟩
/-- a call without arguments -/
theorem pe_c0 {X : Cx} {k j : Nat} {x : Str} {sp : Sp} {dvs : List V} {p pos : Pos} (c : Cal X.prog X.w X.K X.mg X.base k x sp dvs) (hr : Room j X.A) (hk : k ≤ j) (hg : Gl X x)
    (hdb : (x == ("__debug__" : Str)) = false := by decide) : PE X (.Call (.Name x p) [] [] pos) (tCall sp dvs L2.E0 tNil) := by
  obtain ⟨f, fd, ps, ds, F, hm, kp, b, d⟩ := c.ex
  exact pe_call0 F (hr.mono hk) hg hm kp b d pass0 hdb
end
/-! ### small things -/
theorem same_upd {H : Hp} {p : Addr} {o : HO} (h : H p = none) : Same H (upd H p o) := fun b x e => by
  rw [upd_ne (ne_of_none e h)]
  exact e
theorem same_mut {H H' : Hp} {p : Addr} {o : HO} (s : Same H H') (h : H p = none) : Same H (upd H' p o) := fun b x e => by
  rw [upd_ne (ne_of_none e h)]
  exact s b x e
theorem sz1000 {n : Nat} (h : n ≤ 100000) : n ≤ sizeLine := Nat.le_trans h (by decide)
theorem sz1000' {n : Nat} (h : n < 100000) : n < sizeLine := Nat.lt_of_lt_of_le h (by decide)
theorem sz1000'' {n : Nat} (h : n ≤ 16777216) : n ≤ sizeLine := by rw [sizeLine_eq]; exact h
theorem sq {K : PySem.W.Frag} {H : Hp} {a : Addr} {xs : List V} (h : H a = some (.lst xs)) : SqL K H a xs := .inl (.inl h)
def spLaw (K : PySem.W.Frag) : Sp := fun vs H Q _ => ∃ (a : Addr) (ns : List Int), vs = [.ref a] ∧ SqL K H a (ns.map V.int) ∧ ns.length ≤ 63 ∧ ∀ H', Q (.bl true) H'
/-! ### the reading, step by step -/
local macro_rules | `(tactic| walk_at "sd") => `(tactic| first
  | omega
  | decide
  | assumption
  | (show _ ∨ _; exact Or.inl ⟨by omega, by omega⟩)
  | (show _ ∨ _; exact Or.inr ⟨by omega, by omega⟩)
  | (show _ ∧ _; exact ⟨by omega, by omega⟩)
  | (show _ ∧ _; exact ⟨by decide, by decide⟩)
  | exact sz1000 (by omega)
  | exact sz1000' (by omega))
local macro_rules | `(tactic| walk_at "sz") => `(tactic| first
  | exact sz1000 (Nat.le_of_ble_eq_true rfl)
  | exact sz1000 (by omega)
  | exact sz1000'' (by omega)
  | assumption)
/-- one step of a reading: a slot, an operator upon numbers, a call upon values -/
local macro_rules | `(tactic| walk_at "rd") => `(tactic| first
  | refine ⟨_, (rfl : (_ : List (Option V))[_]? = some (some _)), ?_⟩
  | refine ⟨_, _, (rfl : (_ : V) = _), (rfl : (_ : V) = _), (by walk_at "sd" : (_ : Prop)), ?_⟩
  | refine ⟨_, _, (rfl : (_ : V) = _), (rfl : (_ : V) = _), ?_⟩
  | refine ⟨_, (rfl : (_ : List V) = _), (by walk_at "sd" : (_ : Prop)), (by walk_at "sd" : (_ : Prop)), ?_⟩
  | refine ⟨_, (rfl : (_ : List V) = _), ?_⟩
  | refine ⟨_, (rfl : (_ : V) = _), ?_⟩
  | refine .inl ⟨_, (rfl : (_ : List V) = _), ?_⟩
  | refine ⟨⟨_, (rfl : (_ : V) = _)⟩, ?_⟩
  | refine ⟨(rfl : scal _ _ = true), ?_⟩
  | refine ⟨(rfl : V.non = V.non), ?_⟩
  | refine ⟨(by walk_at "sz" : (_ ≤ sizeLine)), ?_⟩)
local macro_rules | `(tactic| walk_at "rds") => `(tactic| repeat walk_at "rd")
theorem tyes {σ : L2.St} {H : Hp} {A B : Hp → Prop} (h : A H) : tYes σ H (fun b H3 => if b = true then A H3 else B H3) := by
  show (if true = true then A H else B H)
  rw [if_pos rfl]
  exact h
theorem sum_ones {ys : List Str} (h : ∀ y ∈ ys, y.length = 1) : (ys.map (fun x => x.length)).sum = ys.length := by
  induction ys with
  | nil => rfl
  | cons y r ih =>
    rw [List.map_cons, List.sum_cons, ih (fun z hz => h z (List.mem_cons_of_mem _ hz)), h y List.mem_cons_self, List.length_cons]
    omega
theorem chr_at {z : Str} {i : Int} (h0 : 0 ≤ i) (h1 : i < z.length) : ∃ c, atI z.cps.toList i = some c := by
  obtain ⟨j, rfl⟩ := Int.eq_ofNat_of_zero_le h0
  have hj : j < z.cps.toList.length := by
    rw [Array.length_toList]
    exact Int.ofNat_lt.mp h1
  exact ⟨z.cps.toList[j], atI_nat (List.getElem?_eq_getElem hj)⟩
/-- what an append to a tracked new list leaves -/
theorem lst_app {α : Type} {H : Hp} {D : Addr} {f : α → V} {ys : List α} {y : α} : upd H D (.lst (ys.map f ++ [f y])) D = some (.lst ((ys ++ [y]).map f)) := by
  rw [upd_same, List.map_append]
  rfl
theorem rg40 {n : Nat} (h : n ≤ 100000) : RgC 0 n 40 ((n + 39) / 40) := by
  have e : Builtin.Range.rangeSize 0 (n : Int) 40 = (((n + 39) / 40 : Nat) : Int) := by
    rw [rangeSize_pos (by decide) (by omega)]
    omega
  refine ⟨by decide, by decide, ?_, e⟩
  unfold Builtin.Range.small
  rw [e]
  unfold Builtin.Range.rangeFitsLong
  simp
  omega
theorem isi {K : PySem.W.Frag} {H : Hp} {x : V} {T1 T2 : String} {b : Bool} {Q : VK} (ty : TyX K H x (.type T1)) (e : kitB T1 T2 = some b) (q : Q (.bl b) H) : rIsi K [x, .ty T2] H Q :=
  ⟨x, .ty T2, _, _, b, rfl, .ty _, ty, kit_ty e, q⟩
theorem ifT {c : Bool} {A B : Prop} (hc : c = true) (h : A) : if c = true then A else B := by
  rw [if_pos hc]
  exact h
theorem ifF {c : Bool} {A B : Prop} (hc : c = false) (h : B) : if c = true then A else B := by
  rw [if_neg (by rw [hc]; decide)]
  exact h
local macro_rules | `(tactic| walk_at "isk") => `(tactic| first
  | exact .base (.int _) | exact .base (.str _) | exact .base (.bl _) | exact .base .non
  | exact .base (.lst (by assumption)) | exact .base (.tup (by assumption)) | exact .base (.dK (by assumption)))
/-- isinstance(x, T) with a built-in T; the object's fact stands in the context -/
local macro_rules | `(tactic| walk_at "isi") => `(tactic| first
  | refine ⟨_, .ty _, _, _, true, (rfl : (_ : List V) = _), .ty _, (by walk_at "isk"), kit_ty (by decide +kernel), ?_⟩
  | refine ⟨_, .ty _, _, _, false, (rfl : (_ : List V) = _), .ty _, (by walk_at "isk"), kit_ty (by decide +kernel), ?_⟩)
/-! ### classes of the top -/
structure MethOk (K : PySem.W.Frag) (C : Addr) (m qual : Str) (st : Stmt) (ps : List Str) : Prop where
  ex : ∃ (f : Addr) (fd : FuncData), Meth K C m f ∧ L2.Fun K m qual st f fd ∧ Binds K fd ps []
structure MakOk (K : PySem.W.Frag) (C : Addr) (qual : Str) (st : Stmt) (ps : List Str) : Prop where
  ex : ∃ (f : Addr) (fd : FuncData), Mk K C f ∧ L2.Fun K "__init__" qual st f fd ∧ Binds K fd ps []
section
variable {P : Program} {w : World} {K : PySem.W.Frag} {mg : Str → Option Value} {base : Heap}
theorem met {C : Addr} {m qual : Str} {st : Stmt} {N ps : List Str} {k : Nat} {sp : Sp} (c : Cls K C) (D : MethOk K C m qual st ps) (S : FnScope N ps (defScope st)) (len : ∀ vs H Q E, sp vs H Q E → vs.length = ps.length)
    (hbody : ∀ (f : Addr) (cdv : Value) (A : Around) (outer : List Env) (s : Shared) (H : Hp) (vs : List V) (Q : VK) (E : XK), Room k (A.deeper (envOfC qual (defScope st) s.heap.objs.size f cdv)) → sp vs H Q E →
      ∃ t, PSs (cxOf L2.CX0 P w K mg base N qual (defScope st) f cdv A outer s H E).nox (defBody st) t ∧ t { nx := fun _ H' => Q .non H', rt := Q } (start N vs) H) : Met P w K mg base (k + 1) C m sp [] := by
  obtain ⟨f, fd, M, F, b⟩ := D.ex
  exact ⟨f, fd, ps, [], c, M, F.ok S len (fun cdv A outer s H vs Q E hr h => hbody f cdv A outer s H vs Q E hr h), b, .nil⟩
theorem mak {C : Addr} {x qual : Str} {st : Stmt} {N ps : List Str} {k : Nat} {sp : Sp} (hm : mg x = some (.ref C)) (D : MakOk K C qual st ps) (S : FnScope N ps (defScope st)) (len : ∀ vs H Q E, sp vs H Q E → vs.length = ps.length)
    (hbody : ∀ (f : Addr) (cdv : Value) (A : Around) (outer : List Env) (s : Shared) (H : Hp) (vs : List V) (Q : VK) (E : XK), Room k (A.deeper (envOfC qual (defScope st) s.heap.objs.size f cdv)) → sp vs H Q E →
      ∃ t, PSs (cxOf L2.CX0 P w K mg base N qual (defScope st) f cdv A outer s H E).nox (defBody st) t ∧ t { nx := fun _ H' => Q .non H', rt := Q } (start N vs) H) : Mak P w K mg base (k + 1) x C sp [] := by
  obtain ⟨f, fd, M, F, b⟩ := D.ex
  exact ⟨f, fd, ps, [], M, F.ok S len (fun cdv A outer s H vs Q E hr h => hbody f cdv A outer s H vs Q E hr h), hm, b, .nil⟩
end
/-- a tuple of the top, in the written part -/
def KTup (K : PySem.W.Frag) (a : Addr) (xs : List V) : Prop := ∃ o its n, K.lookup a = some o ∧ o.cls = Value.type "tuple" ∧ o.data = Data.seq its n ∧ its.size ≤ sizeLine ∧ Vals xs its.toList
theorem pe_mk0 {X : Cx} {k j : Nat} {x : Str} {C : Addr} {sp : Sp} {dvs : List V} {p pos : Pos} (c : Mak X.prog X.w X.K X.mg X.base k x C sp dvs) (hr : Room j X.A) (hk : k + 1 ≤ j) (hg : Gl X x)
    (hdb : (x == ("__debug__" : Str)) = false := by decide) : PE X (.Call (.Name x p) [] [] pos) (tMake C sp dvs L2.E0 tNil) := by
  obtain ⟨f, fd, ps, ds, M, F, hm, b, d⟩ := c.ex
  exact pe_make0 M F (hr.mono hk) hg hm b d pass0 hdb
/-! ### rules whose written part is named K (a comprehension's context is another one) -/
section
variable {X : Cx} {K : PySem.W.Frag}
theorem kin (h : X.K = K := by rfl) : OpR X (compareOp .In) (rIn K false) := by subst h; exact op_in_seq
theorem knin (h : X.K = K := by rfl) : OpR X (compareOp .NotIn) (rIn K true) := by subst h; exact op_notIn_seq
theorem kixl (h : X.K = K := by rfl) : IxR X (rIxL K) := by subst h; exact ix_list
theorem kixt (h : X.K = K := by rfl) : IxR X (rIxT K) := by subst h; exact ix_tup
theorem ksll (h : X.K = K := by rfl) : SlR X (rSlL K) := by subst h; exact sl_list
theorem kisi (h : X.K = K := by rfl) : CallR X (.builtin "isinstance") (rIsi K) := by subst h; exact call_isi
theorem kfld {o : Expr} {f : Str} {pos : Pos} {ta : TE} (he : PE X o ta) (hb : attributeBase o f X.env (eval o X.env) = eval o X.env := by rfl) (h : X.K = K := by rfl) : PE X (.Attribute o f pos) (tFld K ta f) := by subst h; exact pe_fld he hb
def rLenK (K : PySem.W.Frag) : List V → Hp → VK → Prop := fun xs H Q => ∃ p ys, xs = [.ref p] ∧ (SqL K H p ys ∨ SqT K H p ys) ∧ Q (.int ys.length) H
theorem klen (h : X.K = K := by rfl) : CallR X (.builtin "len") (rLenK K) := by subst h; exact call_len_seq
end
theorem hu1 {k : Nat} {A : Around} (hr : Room k A) : A.units + 1 < cLine := by have := hr.units; omega
section
variable {X : Cx}
theorem kdin {d : Addr} (h : ∃ es n, KDict X.K X.w d es n) : OpR X (compareOp .In) (fun x y H Q => ∃ (z : Str) (r : Option Value), x = .str z ∧ y = .ref d ∧ PySem.W.nsIn X.K d z = some r ∧ Q (.bl r.isSome) H) := by
  obtain ⟨es, n, D⟩ := h
  exact op_in_kd D
theorem kdnin {d : Addr} (h : ∃ es n, KDict X.K X.w d es n) : OpR X (compareOp .NotIn) (fun x y H Q => ∃ (z : Str) (r : Option Value), x = .str z ∧ y = .ref d ∧ PySem.W.nsIn X.K d z = some r ∧ Q (.bl (!r.isSome)) H) := by
  obtain ⟨es, n, D⟩ := h
  exact op_notIn_kd D
end
theorem kgtup {X : Cx} {K : PySem.W.Frag} {es : List Expr} {k : Nat} {t : TGs} {n : Nat} {pos : Pos} (hc : X.calm = true) (h : PGs X es t)
    (hn : (assignEach es X.env).length = n := by rfl) (hst : (assignEach es X.env).findIdx? (·.1) = none := by rfl) (hK : X.K = K := by rfl) : PG X (.Tuple es k pos) (gTup K n t) := by subst hK; exact pg_tup hc h hn hst
theorem hu65 {A : Around} {k : Nat} (hr : Room k A) : A.units + 65 < cLine := by have := hr.un; omega
theorem keqD {X : Cx} {K : PySem.W.Frag} (hu : X.A.units + 64 < cLine) (h : X.K = K := by rfl) : OpR X (compareOp .Eq) (rEqD K) := by subst h; exact op_eqD hu
theorem kneD {X : Cx} {K : PySem.W.Frag} (hu : X.A.units + 64 < cLine) (h : X.K = K := by rfl) : OpR X (compareOp .NotEq) (rNeD K) := by subst h; exact op_neD hu

/-! ### defs that raise own exceptions -/
theorem kit_tyB {K : PySem.W.Frag} {B : Addr} {T : String} (hm : PySem.W.kitMeta T = true) (h : PySem.W.subIn K (.ref B) (.type T) = some true) : PySem.W.kitOne K (.ref B) (.type T) = some true := by
  unfold PySem.W.kitOne
  rw [if_neg (by rw [show ((Value.ref B : Value) == .type T) = false from rfl]; exact Bool.false_ne_true)]
  show (if PySem.W.kitMeta T = true then PySem.W.subIn K (.ref B) (.type T) else none) = some true
  rw [if_pos hm]; exact h
theorem kit_own {K : PySem.W.Frag} {B C : Addr} (h1 : PySem.W.subIn K (.ref C) (.type "BaseException") = some true) (h2 : PySem.W.typeIn K (.ref C) = some (.type "type")) (h3 : PySem.W.subIn K (.ref B) (.ref C) = some true) : PySem.W.kitOne K (.ref B) (.ref C) = some true := by
  have h0 : (PySem.W.clsIn K C).isSome = true := by
    have h1 : PySem.W.mroIn K C (.type "BaseException") = some true := h1
    unfold PySem.W.mroIn at h1
    cases e : PySem.W.clsIn K C with
    | some _ => rfl
    | none => rw [e] at h1; cases h1
  unfold PySem.W.kitOne
  split
  · rfl
  · show (if ((PySem.W.clsIn K C).isSome && PySem.W.typeIn K (.ref C) == some (.type "type")) = true then PySem.W.subIn K (.ref B) (.ref C) else none) = some true
    rw [h0, h2, h3]
    rfl
section
variable {X : Cx}
/-- C() of an own exception class without an __init__ of its own -/
theorem pmk_own0 {x : Str} {C : Addr} {bmB : List Value} {B newId initId : String} {p pos : Pos} (F : ExcBaseFacts B newId initId bmB) (q : PySem.W.excIn X.K C bmB newId = true) (gC : X.mg x = some (.ref C)) (kC : PySem.W.keepIn X.K (.ref C) = true) (r : Raises X (.ref C)) (hg : Gl X x)
    (hdb : (x == ("__debug__" : Str)) = false := by decide) : PMk X (.Call (.Name x p) [] [] pos) (fun _ H Q => Q (.ref C) none H) := by
  intro pins s σ H Q I h
  refine wpAny_Call_Name_kw (ld_glob I hg gC ?_ hdb)
  refine PySem.W.callWith_K0 I.kIn kC ?_
  show wpAny _ _ (call (.ref C) []) _ _ _
  obtain ⟨bm, N, nm, qn, bs, hdct, sn, sub, ab, col, dd, k0, k1, k2, k3, k5, mN, hC, hN, hni, T⟩ := exc_obj I.kIn q
  refine wpAny_call_exc_subT F T hC hN hni (fun h' e hm => ?_) (Nat.zero_le _)
  exact mk_of I hm r h (I.hok.gone hm.new)
end
/-- an own exception class over ValueError -/
structure ExOk (K : PySem.W.Frag) (mg : Str → Option Value) (x : Str) (C : Addr) : Prop where
  ex : PySem.W.excIn K C [.type "ValueError", .type "Exception", .type "BaseException", .type "object"] "ValueError.__new__" = true
  g : mg x = some (.ref C)
  kp : PySem.W.keepIn K (.ref C) = true
  bp : PySem.W.subIn K (.ref C) (.type "BaseException") = some true
  tp : PySem.W.typeIn K (.ref C) = some (.type "type")
  hd : PySem.W.hasDictIn K C = true
theorem ExOk.exm {K : PySem.W.Frag} {mg : Str → Option Value} {x : Str} {C : Addr} {cls : Value} {b : Bool} (e : ExOk K mg x C) (h : PySem.W.subIn K cls (.ref C) = some b) : PySem.W.exmOne K cls (.ref C) = some b := PySem.W.exm_ref e.bp e.hd e.tp h
theorem pmk_ok {X : Cx} {x : Str} {C : Addr} {p pos : Pos} (e : ExOk X.K X.mg x C) (hg : Gl X x) (hdb : (x == ("__debug__" : Str)) = false := by decide) : PMk X (.Call (.Name x p) [] [] pos) (fun _ H Q => Q (.ref C) none H) :=
  pmk_own0 PySem.F.excBase_ValueError e.ex e.g e.kp (raises_own e.bp e.tp) hg hdb
/-! the promises of such defs -/
structure CalX (P : Program) (w : World) (K : PySem.W.Frag) (mg : Str → Option Value) (base : Heap) (k : Nat) (x : Str) (sp : Sp) : Prop where
  ex : ∃ (f : Addr) (fd : FuncData) (ps : List Str), FnOk P w K mg base (L2.CX P w) k f fd ps sp ∧ mg x = some (.ref f) ∧ PySem.W.keepIn K (.ref f) = true ∧ Binds K fd ps []
structure MetX (P : Program) (w : World) (K : PySem.W.Frag) (mg : Str → Option Value) (base : Heap) (k : Nat) (C : Addr) (m : Str) (sp : Sp) : Prop where
  ex : ∃ (f : Addr) (fd : FuncData) (ps : List Str), Cls K C ∧ Meth K C m f ∧ FnOk P w K mg base (L2.CX P w) k f fd ps sp ∧ Binds K fd ps []
structure MakX (P : Program) (w : World) (K : PySem.W.Frag) (mg : Str → Option Value) (base : Heap) (k : Nat) (x : Str) (C : Addr) (sp : Sp) : Prop where
  ex : ∃ (f : Addr) (fd : FuncData) (ps : List Str), Mk K C f ∧ FnOk P w K mg base (L2.CX P w) k f fd ps sp ∧ mg x = some (.ref C) ∧ Binds K fd ps []
section
variable {P : Program} {w : World} {K : PySem.W.Frag} {mg : Str → Option Value} {base : Heap}
theorem calX {x : Str} {st : Stmt} {N ps : List Str} {k : Nat} {sp : Sp} (D : DefOk K mg x st ps) (S : FnScope N ps (defScope st)) (len : ∀ vs H Q E, sp vs H Q E → vs.length = ps.length)
    (hbody : ∀ (f : Addr) (cdv : Value) (A : Around) (outer : List Env) (s : Shared) (H : Hp) (vs : List V) (Q : VK) (E : XK), Room k (A.deeper (envOfC x (defScope st) s.heap.objs.size f cdv)) → sp vs H Q E →
      ∃ t, PSs (cxOf (L2.CX P w) P w K mg base N x (defScope st) f cdv A outer s H E) (defBody st) t ∧ t { nx := fun _ H' => Q .non H', rt := Q } (start N vs) H) : CalX P w K mg base (k + 1) x sp := by
  obtain ⟨f, fd, F, hm, b⟩ := D.ex
  exact ⟨f, fd, ps, F.okX S len (fun cdv A outer s H vs Q E hr h => hbody f cdv A outer s H vs Q E hr h), hm, F.kp, b⟩
theorem metX {C : Addr} {m qual : Str} {st : Stmt} {N ps : List Str} {k : Nat} {sp : Sp} (c : Cls K C) (D : MethOk K C m qual st ps) (S : FnScope N ps (defScope st)) (len : ∀ vs H Q E, sp vs H Q E → vs.length = ps.length)
    (hbody : ∀ (f : Addr) (cdv : Value) (A : Around) (outer : List Env) (s : Shared) (H : Hp) (vs : List V) (Q : VK) (E : XK), Room k (A.deeper (envOfC qual (defScope st) s.heap.objs.size f cdv)) → sp vs H Q E →
      ∃ t, PSs (cxOf (L2.CX P w) P w K mg base N qual (defScope st) f cdv A outer s H E) (defBody st) t ∧ t { nx := fun _ H' => Q .non H', rt := Q } (start N vs) H) : MetX P w K mg base (k + 1) C m sp := by
  obtain ⟨f, fd, M, F, b⟩ := D.ex
  exact ⟨f, fd, ps, c, M, F.okX S len (fun cdv A outer s H vs Q E hr h => hbody f cdv A outer s H vs Q E hr h), b⟩
theorem makX {C : Addr} {x qual : Str} {st : Stmt} {N ps : List Str} {k : Nat} {sp : Sp} (hm : mg x = some (.ref C)) (D : MakOk K C qual st ps) (S : FnScope N ps (defScope st)) (len : ∀ vs H Q E, sp vs H Q E → vs.length = ps.length)
    (hbody : ∀ (f : Addr) (cdv : Value) (A : Around) (outer : List Env) (s : Shared) (H : Hp) (vs : List V) (Q : VK) (E : XK), Room k (A.deeper (envOfC qual (defScope st) s.heap.objs.size f cdv)) → sp vs H Q E →
      ∃ t, PSs (cxOf (L2.CX P w) P w K mg base N qual (defScope st) f cdv A outer s H E) (defBody st) t ∧ t { nx := fun _ H' => Q .non H', rt := Q } (start N vs) H) : MakX P w K mg base (k + 1) x C sp := by
  obtain ⟨f, fd, M, F, b⟩ := D.ex
  exact ⟨f, fd, ps, M, F.okX S len (fun cdv A outer s H vs Q E hr h => hbody f cdv A outer s H vs Q E hr h), hm, b⟩
end
/-! their calls: E tells at the slots what is wished of an error -/
section
variable {X : Cx} {k j : Nat} {C : Addr} {x m : Str} {sp : Sp} {p pos apos : Pos} {e o : Expr} {es : List Expr} {ta : TE} {t : TA} {E : L2.St → XK}
theorem pe_cX (c : CalX X.prog X.w X.K X.mg X.base k x sp) (hr : Room j X.A) (hk : k ≤ j) (hg : Gl X x) (hx : ∀ σ, PassesAt (L2.CX X.prog X.w) X σ (E σ)) (ha : PA X (e :: es) t)
    (hdb : (x == ("__debug__" : Str)) = false := by decide) (he : starEach (e :: es) X.env = (false, eval e X.env) :: starEach es X.env := by rfl) (hpl : (backTo pos (starEach es X.env)).any (·.1) = false := by rfl) :
    PE X (.Call (.Name x p) (e :: es) [] pos) (tCallS sp E t) := by
  obtain ⟨f, fd, ps, F, hm, kp, b⟩ := c.ex
  exact pe_callS F (hr.mono hk) hg hm kp b hx ha hdb he hpl
/-- where nothing is raised -/
theorem pe_cXn (c : CalX X.prog X.w X.K X.mg X.base k x sp) (hr : Room j X.A) (hk : k ≤ j) (hg : Gl X x) (ha : PA X (e :: es) t)
    (hdb : (x == ("__debug__" : Str)) = false := by decide) (he : starEach (e :: es) X.env = (false, eval e X.env) :: starEach es X.env := by rfl) (hpl : (backTo pos (starEach es X.env)).any (·.1) = false := by rfl) :
    PE X (.Call (.Name x p) (e :: es) [] pos) (tCall sp [] L2.E0 t) := by
  obtain ⟨f, fd, ps, F, hm, kp, b⟩ := c.ex
  exact pe_call F (hr.mono hk) hg hm kp b .nil passL ha hdb he hpl
def tMethX (C : Addr) (m : Str) (sp : Sp) (E : L2.St → XK) (ta : TE) (t : TA) : TE := fun σ H Q => ta σ H fun x H1 => ∃ a dx fs, x = .ref a ∧ H1 a = some (.ins C dx fs) ∧ fs.lookup m = none ∧ t σ H1 fun vs H2 => sp (.ref a :: vs) H2 Q (E σ)
theorem pe_mtX {pl : Sem Bool} (c : MetX X.prog X.w X.K X.mg X.base k C m sp) (hr : Room j X.A) (hk : k ≤ j) (hx : ∀ σ, PassesAt (L2.CX X.prog X.w) X σ (E σ)) (he : PE X o ta) (ha : PA X (e :: es) t)
    (hst : starEach (e :: es) X.env = (false, eval e X.env) :: starEach es X.env := by rfl) (hpl : (backTo pos (starEach es X.env)).any (·.1) = false := by rfl)
    (ht : eval (.Call (.Attribute o m apos) (e :: es) [] pos) X.env = (do
      let ov ← eval o X.env
      standAt apos.atName
      let (f, first) ← holding [ov] (getMethod ov m pl)
      callWith pos f first (backTo pos (starEach (e :: es) X.env)) (backToKw pos (keywordEach [] X.env))) := by rfl) :
    PE X (.Call (.Attribute o m apos) (e :: es) [] pos) (tMethX C m sp E ta t) := by
  obtain ⟨f, fd, ps, hc, hm, F, b⟩ := c.ex
  refine ⟨fun pins s σ H Q I h => ?_⟩
  refine PySem.W.methodCall_KW (pl := pl) (thn (he.run pins s σ H _ I h) fun u s1 ⟨x, H1, I1, rx, a, dx, fs, ex, ea, l, q⟩ => ?_) ht
  subst ex
  obtain rfl : u = Value.ref a := rx
  refine getmeth_ok I1 ea hc hm l ?_
  refine PySem.W.callWith_K (first := [.ref a]) (h₀ := X.base) I.ok.mod.kin hm.kp (thn (ha.run pos pins s1 σ H1 _ I1 q) fun us s2 ⟨vs, H2, I2, r, q2⟩ => ⟨I2.kIn, ?_⟩) hst hpl
  exact run_fnS (us := .ref a :: us) (vs := .ref a :: vs) F (hr.mono hk) b (hx σ) I2 (.cons rfl r) q2
theorem pe_mtX0 {pl : Sem Bool} (c : MetX X.prog X.w X.K X.mg X.base k C m sp) (hr : Room j X.A) (hk : k ≤ j) (hx : ∀ σ, PassesAt (L2.CX X.prog X.w) X σ (E σ)) (he : PE X o ta)
    (ht : eval (.Call (.Attribute o m apos) [] [] pos) X.env = (do
      let ov ← eval o X.env
      standAt apos.atName
      let (f, first) ← holding [ov] (getMethod ov m pl)
      callWith pos f first (backTo pos (starEach [] X.env)) (backToKw pos (keywordEach [] X.env))) := by rfl) :
    PE X (.Call (.Attribute o m apos) [] [] pos) (tMethX C m sp E ta tNil) := by
  obtain ⟨f, fd, ps, hc, hm, F, b⟩ := c.ex
  refine ⟨fun pins s σ H Q I h => ?_⟩
  refine PySem.W.methodCall_KW (pl := pl) (thn (he.run pins s σ H _ I h) fun u s1 ⟨x, H1, I1, rx, a, dx, fs, ex, ea, l, q⟩ => ?_) ht
  subst ex
  obtain rfl : u = Value.ref a := rx
  refine getmeth_ok I1 ea hc hm l ?_
  exact PySem.W.callWith_K0 (first := [.ref a]) I1.kIn hm.kp (run_fnS (us := [.ref a]) (vs := [.ref a]) F (hr.mono hk) b (hx σ) I1 (.cons rfl .nil) q)
def tMakeX (C : Addr) (sp : Sp) (E : L2.St → XK) (t : TA) : TE := fun σ H Q => t σ H fun vs H1 => ∀ x dx, H1 x = none → H1 dx = none → dx ≠ x → sp (.ref x :: vs) (upd (upd H1 dx (.own x)) x (.ins C dx [])) (fun v H2 => v = .non ∧ Q (.ref x) H2) (E σ)
theorem run_makeX {CX : CXT} {f : Addr} {fd : FuncData} {ps : List Str} {pins : List (Addr × Obj)} {σ : L2.St} {H : Hp} {s : Shared} {Q : VK} {us : List Value} {vs : List V} {Eσ : XK} (M : Mk X.K C f) (F : FnOk X.prog X.w X.K X.mg X.base CX k f fd ps sp) (hr : Room (k + 1) X.A) (hb : Binds X.K fd ps [])
    (hx : PassesAt CX X σ Eσ) (I : Inv X pins σ H s) (r : Vals vs us)
    (h : ∀ x dx, H x = none → H dx = none → dx ≠ x → sp (.ref x :: vs) (upd (upd H dx (.own x)) x (.ins C dx [])) (fun v H2 => v = .non ∧ Q (.ref x) H2) Eσ) :
    wpAny (model X.prog X.w) X.A (call (.ref C) us) (EP X pins σ Q) X.xe s := by
  have hq := h (s.heap.objs.size + 1) s.heap.objs.size (I.hok.fresh (Nat.le_succ _)) (I.hok.fresh (Nat.le_refl _)) (Nat.ne_of_lt (Nat.lt_succ_self _))
  have I2 := Inv.made (C := C) I
  have r2 : Vals (V.ref (s.heap.objs.size + 1) :: vs) (Value.ref (s.heap.objs.size + 1) :: us) := .cons rfl r
  have hl : (Value.ref (s.heap.objs.size + 1) :: us ++ ([] : List Value)).length = ps.length := by
    have e := r2.length
    rw [F.len _ _ _ _ hq] at e
    rw [List.append_nil]
    exact e.symm
  have hb' := hb _ (Value.ref (s.heap.objs.size + 1) :: us) I2.kIn hl
  rw [List.append_nil] at hb'
  refine wpAny_call (make_map (f := f) I.kIn M.makes M.init (beq_iff_eq.mp M.fn) (codeAny_mono (F.run _ X.stack _ _ ⟨Value.ref (s.heap.objs.size + 1) :: us, []⟩ (Value.ref (s.heap.objs.size + 1) :: us) _ _ Eσ (hr.make C us [])
    (I2.env0.make C us []) hb' r2 hq) fun r s' hq' => ?_))
  cases r with
  | error e => exact hx pins _ _ e s' I2 hq'
  | ok fl =>
    cases fl with
    | ret u =>
      obtain ⟨v, H', I3, rv, ev, q3⟩ := I2.after hq'
      subst ev
      exact ⟨rv, ⟨V.ref (s.heap.objs.size + 1), H', I3, rfl, q3⟩⟩
    | next => exact False.elim hq'
    | brk => exact False.elim hq'
    | cont => exact False.elim hq'
theorem pe_mkX (c : MakX X.prog X.w X.K X.mg X.base k x C sp) (hr : Room j X.A) (hk : k + 1 ≤ j) (hg : Gl X x) (hx : ∀ σ, PassesAt (L2.CX X.prog X.w) X σ (E σ)) (ha : PA X (e :: es) t)
    (hdb : (x == ("__debug__" : Str)) = false := by decide) (he : starEach (e :: es) X.env = (false, eval e X.env) :: starEach es X.env := by rfl) (hpl : (backTo pos (starEach es X.env)).any (·.1) = false := by rfl) :
    PE X (.Call (.Name x p) (e :: es) [] pos) (tMakeX C sp E t) := by
  obtain ⟨f, fd, ps, M, F, hm, b⟩ := c.ex
  refine ⟨fun pins s σ H Q I h => ?_⟩
  refine wpAny_Call_Name_kw (ld_glob I hg hm ?_ hdb)
  refine PySem.W.callWith_K (h₀ := X.base) I.ok.mod.kin M.kp (thn (ha.run pos pins s σ H _ I h) fun us s1 ⟨vs, H1, I1, r, q⟩ => ⟨I1.kIn, ?_⟩) he hpl
  exact run_makeX M F (hr.mono hk) b (hx σ) I1 r q
/-- where nothing is let out: for the calls above in a def without errors -/
theorem no_pass : ∀ σ : L2.St, PassesAt (L2.CX X.prog X.w) X σ ((fun _ => L2.E0) σ) := fun σ pins H s e s' I c => passL pins σ H s e s' I c
end
/-- a for's body that is one try: kept together, so that for_it can name it -/
def tBody (t : TS) : TS := t
theorem pss_body {X : Cx} {b : List Stmt} {t : TS} (h : PSs X b t) : PSs X b (tBody t) := h

/-! ### x.translate({37: None}) of an ASCII text: the sign with code 37 is left out -/
section
open PySem PySem.Builtin PySem.Builtin.Str
/-- what the table tells of a sign -/
def Tl37 {prog : Program} {w : World} (f : Key → Option Value) : Prop := ∀ c : Nat, f (Sum.inl (c : Int)) = if c = 37 then some Value.none else none
theorem mapOfK {prog : Program} {w : World} {h h' : Heap} {a : Addr} {f : Key → Option Value} (m : h.MapOf (mixKind prog w) a f) (k : ∀ b o, h.get? b = some o → h'.get? b = some o) : h'.MapOf (mixKind prog w) a f := by
  obtain ⟨o, es, ep, ho, r⟩ := m
  exact ⟨o, es, ep, k _ _ ho, r⟩
theorem tl37 {prog : Program} {w : World} {A : Around} {E : Value → Shared → Prop} {s : Shared} {d : Addr} {c : Nat} {f : Key → Option Value} {Q : Mapped → Shared → Prop} (hh : A.handled = none) (hd : (d == sysModules) = false) (hm : s.heap.MapOf (mixKind prog w) d f) (hk : Tl37 (prog := prog) (w := w) f)
    (h1 : c = 37 → ∀ h' k, (∀ b o, s.heap.get? b = some o → h'.get? b = some o) → Q .drop { s with heap := h', toks := k })
    (h2 : c ≠ 37 → ∀ h' k, (∀ b o, s.heap.get? b = some o → h'.get? b = some o) → Q .keep { s with heap := h', toks := k }) : wpAny (model prog w) A (tableLookup (.ref d) c) Q E s := by
  unfold tableLookup
  refine wpAny_bind (wpAny_attempt (wpAny_bind (wpAny_mkInt ?_)))
  have hf := hk c
  by_cases hc : c = 37
  · rw [if_pos hc] at hf
    refine wpAny_getItem_of (knd := mixKind prog w) (k := Sum.inl (c : Int)) (mixKind_int prog w _ _) hm hf ?_
    exact wpAny_pure (h1 hc s.heap _ fun _ _ e => e)
  · rw [if_neg hc] at hf
    refine wpAny_getItem_missing_of (knd := mixKind prog w) (k := Sum.inl (c : Int)) (mixKind_int prog w _ _) hd hh hm hf fun h' e hx => ?_
    show wpAny _ _ (do let b ← isInstance (.ref e) (.type "LookupError"); _) _ _ _
    obtain ⟨ob, t, ho, hc2, _⟩ := hx.there
    refine wpAny_bind (wpAny_isInstance (T := "KeyError") (b := true) ⟨ob, ho, hc2⟩ (by first | rfl | kernel_rfl) ?_)
    show wpAny _ _ (if true = true then (do rule "str.translate.not-in-table"; pure Mapped.keep) else _) _ _ _
    rw [if_pos rfl]
    exact wpAny_bind (wpAny_rule (wpAny_pure (h2 hc h' _ hx.keeps)))
theorem pieces37 : ∀ (l : List Nat) (acc : Array Nat), List.foldl (fun acc (p : Str) => acc ++ p.cps) acc (l.map fun c => (⟨#[c]⟩ : Str)) = acc ++ l.toArray
  | [], acc => by
    show acc = acc ++ #[]
    rw [Array.append_empty]
  | c :: l, acc => by
    rw [List.map_cons, List.foldl_cons, pieces37 l]
    apply Array.toList_inj.mp
    simp
theorem look_new {c c' : Nat} {a b : Option Nat} {known : List (Nat × Option Nat)} (h : List.lookup c' ((c, a) :: known) = some b) : (c' = c ∧ b = a) ∨ List.lookup c' known = some b := by
  rw [List.lookup_cons] at h
  by_cases e : c' = c
  · rw [e, beq_self_eq_true] at h
    exact Or.inl ⟨e, (Option.some.inj h).symm⟩
  · have e2 : (c' == c) = false := beq_eq_false_iff_ne.mpr e
    rw [e2] at h
    exact Or.inr h
def out37 (l : List Nat) : List Nat := l.filter (fun c => decide (c ≠ 37))
def an37 (c : Nat) : Option Nat := if c = 37 then none else some c
/-- what stands while the signs are walked -/
def Tr37 (x : List Nat) (s : Shared) (rest : List Nat) (st : List Str × Nat × Bool × List (Nat × Option Nat) × Bool) (s' : Shared) : Prop :=
  ∃ (past : List Nat) (pieces : List Str) (known : List (Nat × Option Nat)) (h' : Heap) (k : Nat), x = past ++ rest ∧ st = (pieces, (out37 past).length, true, known, false) ∧ pieces.reverse = (out37 past).map (fun c => (⟨#[c]⟩ : Str)) ∧
    (∀ c a, List.lookup c known = some a → a = an37 c) ∧ s' = { s with heap := h', toks := k } ∧ ∀ b o, s.heap.get? b = some o → h'.get? b = some o
theorem Tr37.keep {x : List Nat} {s : Shared} {rest past : List Nat} {c : Nat} {pieces : List Str} {known : List (Nat × Option Nat)} {h' : Heap} {k : Nat} (hc : c ≠ 37) (h1 : x = past ++ c :: rest)
    (h3 : pieces.reverse = (out37 past).map (fun c => (⟨#[c]⟩ : Str))) (h4 : ∀ c a, List.lookup c known = some a → a = an37 c) (h6 : ∀ b o, s.heap.get? b = some o → h'.get? b = some o) :
    Tr37 x s rest (⟨#[c]⟩ :: pieces, (out37 past).length + 1, true, known, false) { s with heap := h', toks := k } := by
  have e : out37 (past ++ [c]) = out37 past ++ [c] := by
    unfold out37
    rw [List.filter_append, List.filter_cons_of_pos (by simpa using hc), List.filter_nil]
  refine ⟨past ++ [c], ⟨#[c]⟩ :: pieces, known, h', k, ?_, ?_, ?_, h4, rfl, h6⟩
  · rw [h1, List.append_assoc] <;> rfl
  · rw [e, List.length_append] <;> rfl
  · rw [e, List.reverse_cons, h3, List.map_append] <;> rfl
theorem Tr37.drop {x : List Nat} {s : Shared} {rest past : List Nat} {c : Nat} {pieces : List Str} {known : List (Nat × Option Nat)} {h' : Heap} {k : Nat} (hc : c = 37) (h1 : x = past ++ c :: rest)
    (h3 : pieces.reverse = (out37 past).map (fun c => (⟨#[c]⟩ : Str))) (h4 : ∀ c a, List.lookup c known = some a → a = an37 c) (h6 : ∀ b o, s.heap.get? b = some o → h'.get? b = some o) :
    Tr37 x s rest (pieces, (out37 past).length, true, known, false) { s with heap := h', toks := k } := by
  have e : out37 (past ++ [c]) = out37 past := by
    unfold out37
    rw [List.filter_append, List.filter_cons_of_neg (by simpa using hc), List.filter_nil, List.append_nil]
  refine ⟨past ++ [c], pieces, known, h', k, ?_, ?_, ?_, h4, rfl, h6⟩
  · rw [h1, List.append_assoc] <;> rfl
  · rw [e]
  · rw [e]; exact h3
theorem meets_tr37 {prog : Program} {w : World} (x : List Nat) (t : Tok) (d : Addr) (hd : (d == sysModules) = false) (hz : x.length ≤ 16000000) (ha : ∀ c ∈ x, c < 128) : MeetsIn prog w («str.translate» ⟨[.str (SX.S x) t, .ref d], []⟩) (fun A R s =>
    A.handled = none ∧ (∃ f, s.heap.MapOf (mixKind prog w) d f ∧ Tl37 (prog := prog) (w := w) f) ∧ ∀ (v : Value) (h' : Heap) (k : Nat), (∀ b o, s.heap.get? b = some o → h'.get? b = some o) → (∃ t', v = .str (SX.S (out37 x)) t') → R (.ok (.ret v)) { s with heap := h', toks := k }) := by
  refine .of_wp fun A R s h => ?_
  obtain ⟨hh, ⟨f, hm, hk⟩, h⟩ := h
  have hh1 : A.in1.handled = none := hh
  show wpAny _ _ (if ((SX.S x).length == 0) = true then (do rule "str.translate.empty"; ret (.str (SX.S x) t)) else (do
    let st ← forIn (SX.S x).cps (([], 0, (SX.S x).cps.all fun y => decide (y < 128), [], false) : List Str × Nat × Bool × List (Nat × Option Nat) × Bool) _
    _)) _ _ s
  by_cases h0 : ((SX.S x).length == 0) = true
  · rw [if_pos h0]
    have hx : x = [] := by
      rw [beq_iff_eq, SX.S_len] at h0
      exact List.eq_nil_of_length_eq_zero h0
    subst hx
    exact wpAny_bind (wpAny_rule (wpAny_pure ⟨_, rfl, h _ s.heap s.toks (fun _ _ e => e) ⟨t, rfl⟩⟩))
  · rw [if_neg h0]
    have hfast : ((SX.S x).cps.all fun y => decide (y < 128)) = true := by
      rw [← Array.all_toList]
      show (x.toArray.toList.all _) = true
      rw [List.toList_toArray, List.all_eq_true]
      exact fun c hc => decide_eq_true (ha c hc)
    rw [hfast]
    refine wpAny_bind (MeetsSeq2.wpAny_forIn_array _ (Tr37 x s) _ (fun c rest st s' hI => ?turn) (fun st s' hI => ?fin) (SX.S x).cps ([], 0, true, [], false) ?h0)
    case h0 =>
      refine ⟨[], [], [], s.heap, s.toks, ?_, rfl, rfl, fun c a z => ?_, rfl, fun _ _ e => e⟩
      · show x = [] ++ x.toArray.toList
        rw [List.toList_toArray, List.nil_append]
      · rw [List.lookup_nil] at z
        cases z
    case turn =>
      obtain ⟨past, pieces, known, h', k, e1, e2, e3, e4, e5, e6⟩ := hI
      subst e2
      subst e5
      have hpl : (out37 past).length ≤ 16000000 := by
        have q := congrArg List.length e1
        rw [List.length_append] at q
        exact Nat.le_trans (List.length_filter_le _ _) (by omega)
      have hm' : ({ s with heap := h', toks := k } : Shared).heap.MapOf (mixKind prog w) d f := mapOfK hm e6
      show wpAny _ _ (if tooLong (out37 past).length = true then _ else (if true = true then _ else _)) _ _ _
      rw [show tooLong (out37 past).length = false from PyProof.Rows.short24 (by omega), if_neg Bool.false_ne_true]
      rw [if_pos rfl]
      cases hl : List.lookup c known with
      | some a =>
        have ha2 := e4 c a hl
        subst ha2
        refine wpAny_bind (wpAny_pure ?_)
        by_cases hc : c = 37
        · have e : an37 c = none := if_pos hc
          rw [e]
          exact wpAny_pure (Tr37.drop hc e1 e3 e4 e6)
        · have e : an37 c = some c := if_neg hc
          rw [e]
          exact wpAny_pure (Tr37.keep hc e1 e3 e4 e6)
      | none =>
        have new : ∀ b, b = an37 c → ∀ c' a, List.lookup c' ((c, b) :: known) = some a → a = an37 c' := fun b hb c' a z => by
          rcases look_new z with ⟨q1, q2⟩ | q
          · rw [q2, hb, q1]
          · exact e4 c' a q
        refine wpAny_bind (tl37 hh1 hd hm' hk (fun hw h2 k2 k3 => ?_) (fun hw h2 k2 k3 => ?_))
        · have e : an37 c = none := if_pos hw
          refine wpAny_bind (wpAny_pure ?_)
          refine wpAny_pure ?_
          exact Tr37.drop (known := (c, none) :: known) hw e1 e3 (new none e.symm) (fun b o z => k3 b o (e6 b o z))
        · have e : an37 c = some c := if_neg hw
          refine wpAny_bind (wpAny_pure ?_)
          refine wpAny_pure ?_
          exact Tr37.keep (known := (c, some c) :: known) hw e1 e3 (new (some c) e.symm) (fun b o z => k3 b o (e6 b o z))
    case fin =>
      obtain ⟨past, pieces, known, h', k, e1, e2, e3, e4, e5, e6⟩ := hI
      subst e2
      subst e5
      have ex : x = past := by rw [e1, List.append_nil]
      have hl : (out37 past).length ≤ 16000000 := by
        rw [← ex]
        exact Nat.le_trans (List.length_filter_le _ _) hz
      show wpAny _ _ (if tooLong (out37 past).length = true then _ else retStr { cps := List.foldl (fun acc (p : Str) => acc ++ p.cps) #[] pieces.reverse }) _ _ _
      rw [show tooLong (out37 past).length = false from PyProof.Rows.short24 (by omega), if_neg Bool.false_ne_true, e3, pieces37, ← ex]
      have ev : (⟨#[] ++ (out37 x).toArray⟩ : Str) = SX.S (out37 x) := by
        rw [Array.empty_append] <;> rfl
      rw [ev]
      exact wpAny_bind (wpAny_mkStr (wpAny_pure ⟨_, rfl, h _ h' _ e6 ⟨_, rfl⟩⟩) (by rw [SX.S_len, sizeLine_eq, ex]; omega))
def rTr37 : V → List V → Hp → VK → Prop := fun x xs H Q => ∃ (t : Str) (d : Addr), x = .str t ∧ xs = [.ref d] ∧ H d = some (.dK [(Sum.inl 37, .non)]) ∧ (∀ c ∈ t.cps.toList, c < 128) ∧ t.length ≤ 16000000 ∧ Q (.str (SX.S (out37 t.cps.toList))) H
theorem mt_tr37 {X : Cx} (hc : X.calm = true) : MtR X "str.translate" rTr37 := by
  intro pins s σ H x xs v us Q I rx rs h
  obtain ⟨a, d, rfl, rfl, hd, ha, h3, h⟩ := h
  obtain ⟨t, rfl⟩ := rx
  obtain ⟨_, low, vs, kv, dd⟩ := dk_of I.hok hd
  cases rs with
  | cons r1 rs =>
    cases rs
    cases r1
    have ea : SX.S a.cps.toList = a := SX.S_tl a
    have hm := dd.mapOf
    have tl : Tl37 (prog := X.prog) (w := X.w) (valueAt vs) := by
      cases kv with
      | cons p r =>
        cases r
        rename_i b
        obtain ⟨k1, v1⟩ := b
        obtain ⟨e1, e2⟩ := p
        have e1 : Sum.inl 37 = k1 := e1
        have e2 : v1 = Value.none := e2
        subst e1 e2
        intro c
        unfold valueAt
        by_cases hc : c = 37
        · subst hc
          rfl
        · rw [if_neg hc]
          have hne : ¬ ((Sum.inl 37 : Key) = Sum.inl (c : Int)) := fun z => hc (by have := Sum.inl.inj z; omega)
          simp [List.find?, hne]
    rw [← ea]
    refine call_meetsIn F.slot_str_translate (typeIs_str _ _ _) F.entry_str_translate (F.args_str_translate_2 _ _) (meets_tr37 a.cps.toList t d low (by rw [Array.length_toList]; exact h3) ha) ⟨I.ok.hd hc, ⟨_, hm, tl⟩, ?_⟩
    intro v h' k hk ⟨t', e⟩
    subst e
    exact ⟨.str _, H, I.kept (t' := k) hk, ⟨t', rfl⟩, h⟩
end

def topS (i : Nat) : Stmt := PySem.Challenge.pw_oathledger_k11_packets.main.body.getD i (.Pass ⟨0, 0, 0, 0⟩)
abbrev s_is_integer : Stmt := topS 16
theorem sc_is_integer : FnScope ["value", "least", "greatest"] ["value", "least", "greatest"] (defScope s_is_integer) := ⟨rfl, rfl, rfl, by decide +kernel, rfl, by decide +kernel, by decide +kernel⟩
abbrev s_is_printable : Stmt := topS 17
theorem sc_is_printable : FnScope ["value"] ["value"] (defScope s_is_printable) := ⟨rfl, rfl, rfl, by decide +kernel, rfl, by decide +kernel, by decide +kernel⟩
abbrev s_is_short : Stmt := topS 18
theorem sc_is_short : FnScope ["value", "most"] ["value", "most"] (defScope s_is_short) := ⟨rfl, rfl, rfl, by decide +kernel, rfl, by decide +kernel, by decide +kernel⟩
abbrev s_is_decimal : Stmt := topS 19
theorem sc_is_decimal : FnScope ["word"] ["word"] (defScope s_is_decimal) := ⟨rfl, rfl, rfl, by decide +kernel, rfl, by decide +kernel, by decide +kernel⟩
abbrev s_encode : Stmt := topS 20
theorem sc_encode : FnScope ["value"] ["value"] (defScope s_encode) := ⟨rfl, rfl, rfl, by decide +kernel, rfl, by decide +kernel, by decide +kernel⟩
abbrev s_text_of : Stmt := topS 21
theorem sc_text_of : FnScope ["value", "depth", "room", "text"] ["value", "depth", "room"] (defScope s_text_of) := ⟨rfl, rfl, rfl, by decide +kernel, rfl, by decide +kernel, by decide +kernel⟩
abbrev s_tuple_text : Stmt := topS 22
theorem sc_tuple_text : FnScope ["value", "depth", "room", "texts", "item", "text"] ["value", "depth", "room"] (defScope s_tuple_text) := ⟨rfl, rfl, rfl, by decide +kernel, rfl, by decide +kernel, by decide +kernel⟩
abbrev s_single_text : Stmt := topS 23
theorem sc_single_text : FnScope ["value"] ["value"] (defScope s_single_text) := ⟨rfl, rfl, rfl, by decide +kernel, rfl, by decide +kernel, by decide +kernel⟩
abbrev s_has_few_digits : Stmt := topS 24
theorem sc_has_few_digits : FnScope ["value"] ["value"] (defScope s_has_few_digits) := ⟨rfl, rfl, rfl, by decide +kernel, rfl, by decide +kernel, by decide +kernel⟩
abbrev s_decode : Stmt := topS 25
theorem sc_decode : FnScope ["text", "value", "end"] ["text"] (defScope s_decode) := ⟨rfl, rfl, rfl, by decide +kernel, rfl, by decide +kernel, by decide +kernel⟩
abbrev s_read_value : Stmt := topS 26
theorem sc_read_value : FnScope ["text", "start"] ["text", "start"] (defScope s_read_value) := ⟨rfl, rfl, rfl, by decide +kernel, rfl, by decide +kernel, by decide +kernel⟩
abbrev s_value_at : Stmt := topS 27
theorem sc_value_at : FnScope ["text", "start", "end", "depth", "mark"] ["text", "start", "end", "depth"] (defScope s_value_at) := ⟨rfl, rfl, rfl, by decide +kernel, rfl, by decide +kernel, by decide +kernel⟩
abbrev s_number_at : Stmt := topS 28
theorem sc_number_at : FnScope ["text", "start", "end", "mark", "stop"] ["text", "start", "end", "mark"] (defScope s_number_at) := ⟨rfl, rfl, rfl, by decide +kernel, rfl, by decide +kernel, by decide +kernel⟩
abbrev s_integer_at : Stmt := topS 29
theorem sc_integer_at : FnScope ["text", "start", "end", "number", "after"] ["text", "start", "end"] (defScope s_integer_at) := ⟨rfl, rfl, rfl, by decide +kernel, rfl, by decide +kernel, by decide +kernel⟩
abbrev s_string_at : Stmt := topS 30
theorem sc_string_at : FnScope ["text", "start", "end", "length", "first", "after"] ["text", "start", "end"] (defScope s_string_at) := ⟨rfl, rfl, rfl, by decide +kernel, rfl, by decide +kernel, by decide +kernel⟩
abbrev s_tuple_at : Stmt := topS 31
theorem sc_tuple_at : FnScope ["text", "start", "end", "depth", "count", "after", "items", "_", "item"] ["text", "start", "end", "depth"] (defScope s_tuple_at) := ⟨rfl, rfl, rfl, by decide +kernel, rfl, by decide +kernel, by decide +kernel⟩
abbrev s_is_client : Stmt := topS 33
theorem sc_is_client : FnScope ["value"] ["value"] (defScope s_is_client) := ⟨rfl, rfl, rfl, by decide +kernel, rfl, by decide +kernel, by decide +kernel⟩
abbrev s_is_number : Stmt := topS 34
theorem sc_is_number : FnScope ["value"] ["value"] (defScope s_is_number) := ⟨rfl, rfl, rfl, by decide +kernel, rfl, by decide +kernel, by decide +kernel⟩
abbrev s_is_command : Stmt := topS 35
theorem sc_is_command : FnScope ["value", "client", "number", "text"] ["value"] (defScope s_is_command) := ⟨rfl, rfl, rfl, by decide +kernel, rfl, by decide +kernel, by decide +kernel⟩
abbrev s_is_command_list : Stmt := topS 36
theorem sc_is_command_list : FnScope ["value", "before", "command"] ["value"] (defScope s_is_command_list) := ⟨rfl, rfl, rfl, by decide +kernel, rfl, by decide +kernel, by decide +kernel⟩
abbrev s_is_block : Stmt := topS 38
theorem sc_is_block : FnScope ["value", "epoch", "parent", "height", "commands"] ["value"] (defScope s_is_block) := ⟨rfl, rfl, rfl, by decide +kernel, rfl, by decide +kernel, by decide +kernel⟩
abbrev s_is_height_above : Stmt := topS 39
theorem sc_is_height_above : FnScope ["parent", "height"] ["parent", "height"] (defScope s_is_height_above) := ⟨rfl, rfl, rfl, by decide +kernel, rfl, by decide +kernel, by decide +kernel⟩
abbrev s_holds_vouch : Stmt := topS 41
theorem sc_holds_vouch : FnScope ["parts"] ["parts"] (defScope s_holds_vouch) := ⟨rfl, rfl, rfl, by decide +kernel, rfl, by decide +kernel, by decide +kernel⟩
abbrev s_holds_block : Stmt := topS 42
theorem sc_holds_block : FnScope ["parts"] ["parts"] (defScope s_holds_block) := ⟨rfl, rfl, rfl, by decide +kernel, rfl, by decide +kernel, by decide +kernel⟩
abbrev s_holds_claim : Stmt := topS 43
theorem sc_holds_claim : FnScope ["parts"] ["parts"] (defScope s_holds_claim) := ⟨rfl, rfl, rfl, by decide +kernel, rfl, by decide +kernel, by decide +kernel⟩
abbrev s_holds_give : Stmt := topS 44
theorem sc_holds_give : FnScope ["parts", "height"] ["parts"] (defScope s_holds_give) := ⟨rfl, rfl, rfl, by decide +kernel, rfl, by decide +kernel, by decide +kernel⟩
abbrev s_holds_request : Stmt := topS 45
theorem sc_holds_request : FnScope ["parts"] ["parts"] (defScope s_holds_request) := ⟨rfl, rfl, rfl, by decide +kernel, rfl, by decide +kernel, by decide +kernel⟩
abbrev s_holds_answer : Stmt := topS 46
theorem sc_holds_answer : FnScope ["parts"] ["parts"] (defScope s_holds_answer) := ⟨rfl, rfl, rfl, by decide +kernel, rfl, by decide +kernel, by decide +kernel⟩
abbrev s_is_letter : Stmt := topS 48
theorem sc_is_letter : FnScope ["value", "holds"] ["value"] (defScope s_is_letter) := ⟨rfl, rfl, rfl, by decide +kernel, rfl, by decide +kernel, by decide +kernel⟩
abbrev s_route : Stmt := topS 49
theorem sc_route : FnScope ["letter"] ["letter"] (defScope s_route) := ⟨rfl, rfl, rfl, by decide +kernel, rfl, by decide +kernel, by decide +kernel⟩
abbrev s_check_letter : Stmt := topS 50
theorem sc_check_letter : FnScope ["group", "sender", "receiver", "letter", "way", "fits"] ["group", "sender", "receiver", "letter"] (defScope s_check_letter) := ⟨rfl, rfl, rfl, by decide +kernel, rfl, by decide +kernel, by decide +kernel⟩
abbrev s_pack : Stmt := topS 52
theorem sc_pack : FnScope ["sender", "receiver", "letter"] ["sender", "receiver", "letter"] (defScope s_pack) := ⟨rfl, rfl, rfl, by decide +kernel, rfl, by decide +kernel, by decide +kernel⟩
abbrev s_unpack : Stmt := topS 53
theorem sc_unpack : FnScope ["group", "text", "packet", "sender", "receiver", "letter"] ["group", "text"] (defScope s_unpack) := ⟨rfl, rfl, rfl, by decide +kernel, rfl, by decide +kernel, by decide +kernel⟩
abbrev s_Group____init__ : Stmt := inClass (topS 55) 0
theorem sc_Group____init__ : FnScope ["self", "faults"] ["self", "faults"] (defScope s_Group____init__) := ⟨rfl, rfl, rfl, by decide +kernel, rfl, by decide +kernel, by decide +kernel⟩
abbrev s_Group__is_member : Stmt := inClass (topS 55) 2
theorem sc_Group__is_member : FnScope ["self", "value"] ["self", "value"] (defScope s_Group__is_member) := ⟨rfl, rfl, rfl, by decide +kernel, rfl, by decide +kernel, by decide +kernel⟩
abbrev s__law_draws : Stmt := topS 57
theorem sc__law_draws : FnScope ["script", "draws", "k", "cell", "step", "mixed"] ["script"] (defScope s__law_draws) := ⟨rfl, rfl, rfl, by decide +kernel, rfl, by decide +kernel, by decide +kernel⟩
abbrev s__law_next : Stmt := topS 58
theorem sc__law_next : FnScope ["draws", "at", "many", "index"] ["draws", "at", "many"] (defScope s__law_next) := ⟨rfl, rfl, rfl, by decide +kernel, rfl, by decide +kernel, by decide +kernel⟩
abbrev s__law_big : Stmt := topS 59
theorem sc__law_big : FnScope ["draws", "at", "many", "number", "k"] ["draws", "at", "many"] (defScope s__law_big) := ⟨rfl, rfl, rfl, by decide +kernel, rfl, by decide +kernel, by decide +kernel⟩
abbrev s__law_char : Stmt := topS 60
theorem sc__law_char : FnScope ["number", "chars"] ["number"] (defScope s__law_char) := ⟨rfl, rfl, rfl, by decide +kernel, rfl, by decide +kernel, by decide +kernel⟩
abbrev s__law_string : Stmt := topS 61
theorem sc__law_string : FnScope ["draws", "at", "most", "size", "first", "step", "text", "k"] ["draws", "at", "most"] (defScope s__law_string) := ⟨rfl, rfl, rfl, by decide +kernel, rfl, by decide +kernel, by decide +kernel⟩
abbrev s__law_command : Stmt := topS 62
theorem sc__law_command : FnScope ["draws", "at", "client", "number"] ["draws", "at", "client"] (defScope s__law_command) := ⟨rfl, rfl, rfl, by decide +kernel, rfl, by decide +kernel, by decide +kernel⟩
abbrev s__law_commands : Stmt := topS 63
theorem sc__law_commands : FnScope ["draws", "at", "most", "commands", "client", "k"] ["draws", "at", "most"] (defScope s__law_commands) := ⟨rfl, rfl, rfl, by decide +kernel, rfl, by decide +kernel, by decide +kernel⟩
abbrev s__law_block : Stmt := topS 64
theorem sc__law_block : FnScope ["draws", "at", "most", "parent", "epoch", "height"] ["draws", "at", "most"] (defScope s__law_block) := ⟨rfl, rfl, rfl, by decide +kernel, rfl, by decide +kernel, by decide +kernel⟩
abbrev s__law_letter : Stmt := topS 65
theorem sc__law_letter : FnScope ["draws", "at", "kind", "block", "number"] ["draws", "at"] (defScope s__law_letter) := ⟨rfl, rfl, rfl, by decide +kernel, rfl, by decide +kernel, by decide +kernel⟩
abbrev s__law_kind : Stmt := topS 66
theorem sc__law_kind : FnScope ["value"] ["value"] (defScope s__law_kind) := ⟨rfl, rfl, rfl, by decide +kernel, rfl, by decide +kernel, by decide +kernel⟩
abbrev s__law_same : Stmt := topS 67
theorem sc__law_same : FnScope ["actual", "expected", "k"] ["actual", "expected"] (defScope s__law_same) := ⟨rfl, rfl, rfl, by decide +kernel, rfl, by decide +kernel, by decide +kernel⟩
abbrev s__law_text : Stmt := topS 68
theorem sc__law_text : FnScope ["value", "text", "item"] ["value"] (defScope s__law_text) := ⟨rfl, rfl, rfl, by decide +kernel, rfl, by decide +kernel, by decide +kernel⟩
abbrev s__law_unpacked : Stmt := topS 69
theorem sc__law_unpacked : FnScope ["group", "text"] ["group", "text"] (defScope s__law_unpacked) := ⟨rfl, rfl, rfl, by decide +kernel, rfl, by decide +kernel, by decide +kernel⟩
abbrev s__law_ends : Stmt := topS 70
theorem sc__law_ends : FnScope ["letter", "machines", "draws", "at", "client", "machine"] ["letter", "machines", "draws", "at"] (defScope s__law_ends) := ⟨rfl, rfl, rfl, by decide +kernel, rfl, by decide +kernel, by decide +kernel⟩
abbrev s_law : Stmt := topS 71
theorem sc_law : FnScope ["script", "draws", "at", "faults", "group", "turn", "letter", "ends", "fits", "packet", "text", "actual", "value"] ["script"] (defScope s_law) := ⟨rfl, rfl, rfl, by decide +kernel, rfl, by decide +kernel, by decide +kernel⟩
structure Txt (K : PySem.W.Frag) (mg : Str → Option Value) (w : World) (C_Group : Addr) (C_BadGroup : Addr) (C_BadLetter : Addr) (C_BadText : Addr) (C_FORMS : Addr) (C_CONSTANTS : Addr) : Prop where
  d_is_integer : DefOk K mg "is_integer" s_is_integer ["value", "least", "greatest"]
  d_is_printable : DefOk K mg "is_printable" s_is_printable ["value"]
  d_is_short : DefOk K mg "is_short" s_is_short ["value", "most"]
  d_is_decimal : DefOk K mg "is_decimal" s_is_decimal ["word"]
  d_encode : DefOk K mg "encode" s_encode ["value"]
  d_text_of : DefOk K mg "text_of" s_text_of ["value", "depth", "room"]
  d_tuple_text : DefOk K mg "tuple_text" s_tuple_text ["value", "depth", "room"]
  d_single_text : DefOk K mg "single_text" s_single_text ["value"]
  d_has_few_digits : DefOk K mg "has_few_digits" s_has_few_digits ["value"]
  d_decode : DefOk K mg "decode" s_decode ["text"]
  d_read_value : DefOk K mg "read_value" s_read_value ["text", "start"]
  d_value_at : DefOk K mg "value_at" s_value_at ["text", "start", "end", "depth"]
  d_number_at : DefOk K mg "number_at" s_number_at ["text", "start", "end", "mark"]
  d_integer_at : DefOk K mg "integer_at" s_integer_at ["text", "start", "end"]
  d_string_at : DefOk K mg "string_at" s_string_at ["text", "start", "end"]
  d_tuple_at : DefOk K mg "tuple_at" s_tuple_at ["text", "start", "end", "depth"]
  d_is_client : DefOk K mg "is_client" s_is_client ["value"]
  d_is_number : DefOk K mg "is_number" s_is_number ["value"]
  d_is_command : DefOk K mg "is_command" s_is_command ["value"]
  d_is_command_list : DefOk K mg "is_command_list" s_is_command_list ["value"]
  d_is_block : DefOk K mg "is_block" s_is_block ["value"]
  d_is_height_above : DefOk K mg "is_height_above" s_is_height_above ["parent", "height"]
  d_holds_vouch : DefOk K mg "holds_vouch" s_holds_vouch ["parts"]
  d_holds_block : DefOk K mg "holds_block" s_holds_block ["parts"]
  d_holds_claim : DefOk K mg "holds_claim" s_holds_claim ["parts"]
  d_holds_give : DefOk K mg "holds_give" s_holds_give ["parts"]
  d_holds_request : DefOk K mg "holds_request" s_holds_request ["parts"]
  d_holds_answer : DefOk K mg "holds_answer" s_holds_answer ["parts"]
  d_is_letter : DefOk K mg "is_letter" s_is_letter ["value"]
  d_route : DefOk K mg "route" s_route ["letter"]
  d_check_letter : DefOk K mg "check_letter" s_check_letter ["group", "sender", "receiver", "letter"]
  d_pack : DefOk K mg "pack" s_pack ["sender", "receiver", "letter"]
  d_unpack : DefOk K mg "unpack" s_unpack ["group", "text"]
  d__law_draws : DefOk K mg "_law_draws" s__law_draws ["script"]
  d__law_next : DefOk K mg "_law_next" s__law_next ["draws", "at", "many"]
  d__law_big : DefOk K mg "_law_big" s__law_big ["draws", "at", "many"]
  d__law_char : DefOk K mg "_law_char" s__law_char ["number"]
  d__law_string : DefOk K mg "_law_string" s__law_string ["draws", "at", "most"]
  d__law_command : DefOk K mg "_law_command" s__law_command ["draws", "at", "client"]
  d__law_commands : DefOk K mg "_law_commands" s__law_commands ["draws", "at", "most"]
  d__law_block : DefOk K mg "_law_block" s__law_block ["draws", "at", "most"]
  d__law_letter : DefOk K mg "_law_letter" s__law_letter ["draws", "at"]
  d__law_kind : DefOk K mg "_law_kind" s__law_kind ["value"]
  d__law_same : DefOk K mg "_law_same" s__law_same ["actual", "expected"]
  d__law_text : DefOk K mg "_law_text" s__law_text ["value"]
  d__law_unpacked : DefOk K mg "_law_unpacked" s__law_unpacked ["group", "text"]
  d__law_ends : DefOk K mg "_law_ends" s__law_ends ["letter", "machines", "draws", "at"]
  d_law : DefOk K mg "law" s_law ["script"]
  cl_Group : Cls K C_Group
  g_Group : mg "Group" = some (.ref C_Group)
  na_Group_faults : NoAttr K C_Group "faults"
  na_Group_machines : NoAttr K C_Group "machines"
  na_Group_quorum : NoAttr K C_Group "quorum"
  na_Group_blocking : NoAttr K C_Group "blocking"
  mk_Group : MakOk K C_Group "Group.__init__" s_Group____init__ ["self", "faults"]
  me_Group__is_member : MethOk K C_Group "is_member" "Group.is_member" s_Group__is_member ["self", "value"]
  x_BadGroup : ExOk K mg "BadGroup" C_BadGroup
  x_BadLetter : ExOk K mg "BadLetter" C_BadLetter
  x_BadText : ExOk K mg "BadText" C_BadText
  g_FORMS : mg "FORMS" = some (.ref C_FORMS)
  kd_FORMS : ∃ es n, KDict K w C_FORMS es n
  kf_FORMS_vouch : ∃ f, mg "holds_vouch" = some (.ref f) ∧ KDct K w C_FORMS "vouch" (.ref f)
  kf_FORMS_propose : ∃ f, mg "holds_block" = some (.ref f) ∧ KDct K w C_FORMS "propose" (.ref f)
  kf_FORMS_vote : ∃ f, mg "holds_block" = some (.ref f) ∧ KDct K w C_FORMS "vote" (.ref f)
  kf_FORMS_ready : ∃ f, mg "holds_block" = some (.ref f) ∧ KDct K w C_FORMS "ready" (.ref f)
  kf_FORMS_claim : ∃ f, mg "holds_claim" = some (.ref f) ∧ KDct K w C_FORMS "claim" (.ref f)
  kf_FORMS_give : ∃ f, mg "holds_give" = some (.ref f) ∧ KDct K w C_FORMS "give" (.ref f)
  kf_FORMS_command : ∃ f, mg "holds_request" = some (.ref f) ∧ KDct K w C_FORMS "command" (.ref f)
  kf_FORMS_answer : ∃ f, mg "holds_answer" = some (.ref f) ∧ KDct K w C_FORMS "answer" (.ref f)
  km_FORMS_0 : PySem.W.nsIn K C_FORMS "" = some none
  g_CONSTANTS : mg "CONSTANTS" = some (.ref C_CONSTANTS)
  kd_CONSTANTS : ∃ es n, KDict K w C_CONSTANTS es n
  kc_CONSTANTS_0 : KDct K w C_CONSTANTS "n" .non
  kc_CONSTANTS_1 : KDct K w C_CONSTANTS "y" (.bl true)
  kc_CONSTANTS_2 : KDct K w C_CONSTANTS "z" (.bl false)
  km_CONSTANTS_0 : PySem.W.nsIn K C_CONSTANTS " " = some none
  km_CONSTANTS_1 : PySem.W.nsIn K C_CONSTANTS "!" = some none
  km_CONSTANTS_2 : PySem.W.nsIn K C_CONSTANTS "\"" = some none
  km_CONSTANTS_3 : PySem.W.nsIn K C_CONSTANTS "#" = some none
  km_CONSTANTS_4 : PySem.W.nsIn K C_CONSTANTS "$" = some none
  km_CONSTANTS_5 : PySem.W.nsIn K C_CONSTANTS "&" = some none
  km_CONSTANTS_6 : PySem.W.nsIn K C_CONSTANTS "'" = some none
  km_CONSTANTS_7 : PySem.W.nsIn K C_CONSTANTS "(" = some none
  km_CONSTANTS_8 : PySem.W.nsIn K C_CONSTANTS ")" = some none
  km_CONSTANTS_9 : PySem.W.nsIn K C_CONSTANTS "*" = some none
  km_CONSTANTS_10 : PySem.W.nsIn K C_CONSTANTS "+" = some none
  km_CONSTANTS_11 : PySem.W.nsIn K C_CONSTANTS "," = some none
  km_CONSTANTS_12 : PySem.W.nsIn K C_CONSTANTS "-" = some none
  km_CONSTANTS_13 : PySem.W.nsIn K C_CONSTANTS "." = some none
  km_CONSTANTS_14 : PySem.W.nsIn K C_CONSTANTS "/" = some none
  km_CONSTANTS_15 : PySem.W.nsIn K C_CONSTANTS "0" = some none
  km_CONSTANTS_16 : PySem.W.nsIn K C_CONSTANTS "1" = some none
  km_CONSTANTS_17 : PySem.W.nsIn K C_CONSTANTS "2" = some none
  km_CONSTANTS_18 : PySem.W.nsIn K C_CONSTANTS "3" = some none
  km_CONSTANTS_19 : PySem.W.nsIn K C_CONSTANTS "4" = some none
  km_CONSTANTS_20 : PySem.W.nsIn K C_CONSTANTS "5" = some none
  km_CONSTANTS_21 : PySem.W.nsIn K C_CONSTANTS "6" = some none
  km_CONSTANTS_22 : PySem.W.nsIn K C_CONSTANTS "7" = some none
  km_CONSTANTS_23 : PySem.W.nsIn K C_CONSTANTS "8" = some none
  km_CONSTANTS_24 : PySem.W.nsIn K C_CONSTANTS "9" = some none
  km_CONSTANTS_25 : PySem.W.nsIn K C_CONSTANTS ":" = some none
  km_CONSTANTS_26 : PySem.W.nsIn K C_CONSTANTS ";" = some none
  km_CONSTANTS_27 : PySem.W.nsIn K C_CONSTANTS "<" = some none
  km_CONSTANTS_28 : PySem.W.nsIn K C_CONSTANTS "=" = some none
  km_CONSTANTS_29 : PySem.W.nsIn K C_CONSTANTS ">" = some none
  km_CONSTANTS_30 : PySem.W.nsIn K C_CONSTANTS "?" = some none
  km_CONSTANTS_31 : PySem.W.nsIn K C_CONSTANTS "@" = some none
  km_CONSTANTS_32 : PySem.W.nsIn K C_CONSTANTS "A" = some none
  km_CONSTANTS_33 : PySem.W.nsIn K C_CONSTANTS "B" = some none
  km_CONSTANTS_34 : PySem.W.nsIn K C_CONSTANTS "C" = some none
  km_CONSTANTS_35 : PySem.W.nsIn K C_CONSTANTS "D" = some none
  km_CONSTANTS_36 : PySem.W.nsIn K C_CONSTANTS "E" = some none
  km_CONSTANTS_37 : PySem.W.nsIn K C_CONSTANTS "F" = some none
  km_CONSTANTS_38 : PySem.W.nsIn K C_CONSTANTS "G" = some none
  km_CONSTANTS_39 : PySem.W.nsIn K C_CONSTANTS "H" = some none
  km_CONSTANTS_40 : PySem.W.nsIn K C_CONSTANTS "I" = some none
  km_CONSTANTS_41 : PySem.W.nsIn K C_CONSTANTS "J" = some none
  km_CONSTANTS_42 : PySem.W.nsIn K C_CONSTANTS "K" = some none
  km_CONSTANTS_43 : PySem.W.nsIn K C_CONSTANTS "L" = some none
  km_CONSTANTS_44 : PySem.W.nsIn K C_CONSTANTS "M" = some none
  km_CONSTANTS_45 : PySem.W.nsIn K C_CONSTANTS "N" = some none
  km_CONSTANTS_46 : PySem.W.nsIn K C_CONSTANTS "O" = some none
  km_CONSTANTS_47 : PySem.W.nsIn K C_CONSTANTS "P" = some none
  km_CONSTANTS_48 : PySem.W.nsIn K C_CONSTANTS "Q" = some none
  km_CONSTANTS_49 : PySem.W.nsIn K C_CONSTANTS "R" = some none
  km_CONSTANTS_50 : PySem.W.nsIn K C_CONSTANTS "S" = some none
  km_CONSTANTS_51 : PySem.W.nsIn K C_CONSTANTS "T" = some none
  km_CONSTANTS_52 : PySem.W.nsIn K C_CONSTANTS "U" = some none
  km_CONSTANTS_53 : PySem.W.nsIn K C_CONSTANTS "V" = some none
  km_CONSTANTS_54 : PySem.W.nsIn K C_CONSTANTS "W" = some none
  km_CONSTANTS_55 : PySem.W.nsIn K C_CONSTANTS "X" = some none
  km_CONSTANTS_56 : PySem.W.nsIn K C_CONSTANTS "Y" = some none
  km_CONSTANTS_57 : PySem.W.nsIn K C_CONSTANTS "Z" = some none
  km_CONSTANTS_58 : PySem.W.nsIn K C_CONSTANTS "[" = some none
  km_CONSTANTS_59 : PySem.W.nsIn K C_CONSTANTS "\\" = some none
  km_CONSTANTS_60 : PySem.W.nsIn K C_CONSTANTS "]" = some none
  km_CONSTANTS_61 : PySem.W.nsIn K C_CONSTANTS "^" = some none
  km_CONSTANTS_62 : PySem.W.nsIn K C_CONSTANTS "_" = some none
  km_CONSTANTS_63 : PySem.W.nsIn K C_CONSTANTS "`" = some none
  km_CONSTANTS_64 : PySem.W.nsIn K C_CONSTANTS "a" = some none
  km_CONSTANTS_65 : PySem.W.nsIn K C_CONSTANTS "b" = some none
  km_CONSTANTS_66 : PySem.W.nsIn K C_CONSTANTS "c" = some none
  km_CONSTANTS_67 : PySem.W.nsIn K C_CONSTANTS "d" = some none
  km_CONSTANTS_68 : PySem.W.nsIn K C_CONSTANTS "e" = some none
  km_CONSTANTS_69 : PySem.W.nsIn K C_CONSTANTS "f" = some none
  km_CONSTANTS_70 : PySem.W.nsIn K C_CONSTANTS "g" = some none
  km_CONSTANTS_71 : PySem.W.nsIn K C_CONSTANTS "h" = some none
  km_CONSTANTS_72 : PySem.W.nsIn K C_CONSTANTS "i" = some none
  km_CONSTANTS_73 : PySem.W.nsIn K C_CONSTANTS "j" = some none
  km_CONSTANTS_74 : PySem.W.nsIn K C_CONSTANTS "k" = some none
  km_CONSTANTS_75 : PySem.W.nsIn K C_CONSTANTS "l" = some none
  km_CONSTANTS_76 : PySem.W.nsIn K C_CONSTANTS "m" = some none
  km_CONSTANTS_77 : PySem.W.nsIn K C_CONSTANTS "o" = some none
  km_CONSTANTS_78 : PySem.W.nsIn K C_CONSTANTS "p" = some none
  km_CONSTANTS_79 : PySem.W.nsIn K C_CONSTANTS "q" = some none
  km_CONSTANTS_80 : PySem.W.nsIn K C_CONSTANTS "r" = some none
  km_CONSTANTS_81 : PySem.W.nsIn K C_CONSTANTS "s" = some none
  km_CONSTANTS_82 : PySem.W.nsIn K C_CONSTANTS "t" = some none
  km_CONSTANTS_83 : PySem.W.nsIn K C_CONSTANTS "u" = some none
  km_CONSTANTS_84 : PySem.W.nsIn K C_CONSTANTS "v" = some none
  km_CONSTANTS_85 : PySem.W.nsIn K C_CONSTANTS "w" = some none
  km_CONSTANTS_86 : PySem.W.nsIn K C_CONSTANTS "x" = some none
  km_CONSTANTS_87 : PySem.W.nsIn K C_CONSTANTS "{" = some none
  km_CONSTANTS_88 : PySem.W.nsIn K C_CONSTANTS "|" = some none
  km_CONSTANTS_89 : PySem.W.nsIn K C_CONSTANTS "}" = some none
  km_CONSTANTS_90 : PySem.W.nsIn K C_CONSTANTS "~" = some none
  u_BadGroup_BadGroup : PySem.W.subIn K (.ref C_BadGroup) (.ref C_BadGroup) = some true
  u_BadLetter_BadLetter : PySem.W.subIn K (.ref C_BadLetter) (.ref C_BadLetter) = some true
  u_BadText_BadText : PySem.W.subIn K (.ref C_BadText) (.ref C_BadText) = some true
  u_BadLetter_BadText : PySem.W.subIn K (.ref C_BadLetter) (.ref C_BadText) = some false
  u_BadText_BadLetter : PySem.W.subIn K (.ref C_BadText) (.ref C_BadLetter) = some false
  c_MOST_ANSWER : ∃ u, mg "MOST_ANSWER" = some u ∧ RelV (.int 200) u
  c_MOST_CLIENTS : ∃ u, mg "MOST_CLIENTS" = some u ∧ RelV (.int 100) u
  c_MOST_DEPTH : ∃ u, mg "MOST_DEPTH" = some u ∧ RelV (.int 12) u
  c_MOST_DIGITS : ∃ u, mg "MOST_DIGITS" = some u ∧ RelV (.int 60) u
  c_MOST_FAULTS : ∃ u, mg "MOST_FAULTS" = some u ∧ RelV (.int 10) u
  c_MOST_LENGTH : ∃ u, mg "MOST_LENGTH" = some u ∧ RelV (.int 100000) u
  c_MOST_NUMBER : ∃ u, mg "MOST_NUMBER" = some u ∧ RelV (.int 1000000000000) u
  c_MOST_TEXT : ∃ u, mg "MOST_TEXT" = some u ∧ RelV (.int 240) u
  z_abs : mg "abs" = none
  z_bool : mg "bool" = none
  z_int : mg "int" = none
  z_isinstance : mg "isinstance" = none
  z_len : mg "len" = none
  z_min : mg "min" = none
  z_range : mg "range" = none
  z_str : mg "str" = none
  z_tuple : mg "tuple" = none
set_option pp.maxSteps 150
/-! ### the draws of a script -/
def Dr (H : Hp) (D A : Addr) : Prop := D ≠ A ∧ ∃ (ds : List Int) (n : Nat), H D = some (.lst (ds.map V.int)) ∧ H A = some (.lst [.int n]) ∧ (∀ d ∈ ds, 0 ≤ d ∧ d < 1000) ∧ ds.length ≤ 2520
/-- all that was tracked but A is as it was -/
def Mod (A : Addr) (H H' : Hp) : Prop := ∀ b o, b ≠ A → H b = some o → H' b = some o
theorem Mod.refl {A : Addr} {H : Hp} : Mod A H H := fun _ _ _ h => h
theorem Mod.trans {A : Addr} {H H1 H2 : Hp} (a : Mod A H H1) (b : Mod A H1 H2) : Mod A H H2 := fun c o n h => b c o n (a c o n h)
theorem Same.mod {A : Addr} {H H' : Hp} (s : Same H H') : Mod A H H' := fun b o _ h => s b o h
theorem Mod.new {A p : Addr} {o : HO} {H H' : Hp} (s : Mod A H H') (h : H' p = none) : Mod A H (upd H' p o) := fun b u n e => by
  rw [upd_ne (ne_of_none (s b u n e) h)]
  exact s b u n e
theorem Dr.new {D A p : Addr} {o : HO} {H : Hp} (d : Dr H D A) (h : H p = none) : Dr (upd H p o) D A := by
  obtain ⟨ne, ds, n, h1, h2, h3⟩ := d
  exact ⟨ne, ds, n, by rw [upd_ne (ne_of_none h1 h)]; exact h1, by rw [upd_ne (ne_of_none h2 h)]; exact h2, h3⟩
theorem Dr.same {D A : Addr} {H H' : Hp} (d : Dr H D A) (s : Same H H') : Dr H' D A := by
  obtain ⟨ne, ds, n, h1, h2, h3⟩ := d
  exact ⟨ne, ds, n, s _ _ h1, s _ _ h2, h3⟩
/-- an object that is neither D nor A is changed -/
theorem Dr.put {D A p : Addr} {o : HO} {H : Hp} (d : Dr H D A) (h1 : p ≠ D) (h2 : p ≠ A) : Dr (upd H p o) D A := by
  obtain ⟨ne, ds, n, e1, e2, h3⟩ := d
  exact ⟨ne, ds, n, by rw [upd_ne h1.symm]; exact e1, by rw [upd_ne h2.symm]; exact e2, h3⟩
theorem Dr.freshA {D A p : Addr} {H : Hp} (d : Dr H D A) (h : H p = none) : p ≠ A := by
  obtain ⟨_, _, _, _, e, _⟩ := d
  exact (ne_of_none e h).symm
theorem Dr.freshD {D A p : Addr} {H : Hp} (d : Dr H D A) (h : H p = none) : p ≠ D := by
  obtain ⟨_, _, _, e, _⟩ := d
  exact (ne_of_none e h).symm
theorem Mod.free {A p : Addr} {H H' : Hp} (s : Mod A H H') (d : ∃ o, H' A = some o) (h : H' p = none) : H p = none := by
  cases e : H p with
  | none => rfl
  | some o =>
    by_cases hp : p = A
    · subst hp
      obtain ⟨o', e'⟩ := d
      rw [e'] at h; cases h
    · rw [s p o hp e] at h; cases h
theorem Dr.A_in {D A : Addr} {H : Hp} (d : Dr H D A) : ∃ o, H A = some o := by
  obtain ⟨_, _, _, _, e, _⟩ := d
  exact ⟨_, e⟩
theorem rng_app {ds : List Int} {x : Int} (h : ∀ d ∈ ds, 0 ≤ d ∧ d < 1000) (h0 : 0 ≤ x) (h1 : x < 1000) : ∀ d ∈ ds ++ [x], 0 ≤ d ∧ d < 1000 := fun d hd => by
  rcases List.mem_append.mp hd with hd | hd
  · exact h d hd
  · rw [List.mem_singleton.mp hd]; exact ⟨h0, h1⟩

def spDraws (K : PySem.W.Frag) : Sp := fun vs H Q _ => ∃ (a : Addr) (ns : List Int), vs = [.ref a] ∧ SqL K H a (ns.map V.int) ∧ ns.length ≤ 63 ∧
  ∀ (H' : Hp) (D : Addr) (ds : List Int), Same H H' → H D = none → H' D = some (.lst (ds.map V.int)) → (∀ d ∈ ds, 0 ≤ d ∧ d < 1000) → ds.length ≤ 2520 → Q (.ref D) H'
def spNext : Sp := fun vs H Q _ => ∃ (D A : Addr) (m : Int), vs = [.ref D, .ref A, .int m] ∧ Dr H D A ∧ 1 ≤ m ∧
  ∀ (H' : Hp) (r : Int), 0 ≤ r → r < m → Mod A H H' → Dr H' D A → Q (.int r) H'
section
variable {P : Program} {w : World} {K : PySem.W.Frag} {mg : Str → Option Value} {base : Heap}
theorem c__law_next {C_Group : Addr} {C_BadGroup : Addr} {C_BadLetter : Addr} {C_BadText : Addr} {C_FORMS : Addr} {C_CONSTANTS : Addr} (T : Txt K mg w C_Group C_BadGroup C_BadLetter C_BadText C_FORMS C_CONSTANTS) : Cal P w K mg base 1 "_law_next" spNext [] := by
  refine cal T.d__law_next sc__law_next (fun vs H Q E h => ?_) (fun f cdv A outer s H vs Q E hr h => ?_)
  · obtain ⟨D, A, m, rfl, _⟩ := h; rfl
  obtain ⟨D, A, m, rfl, dr, hm, q⟩ := h
  obtain ⟨ne, ds, n, hD, hA, hrg, hle⟩ := id dr
  refine ⟨_, (pss_cons (ps_set (i := 3) sc__law_next.nd rfl (Or.inl rfl) (pe_ix (kixl (K := K)) (pv 1) pe_int (fun _ _ => rfl)))
      (pss_cons (ps_asg (pe_op op_add (pv 3) pe_int) (pg_sub (pv 1) pe_int set_list))
      (pss_cons (ps_if (pt_cmpR op_lt (pv 3) (pe_callB (klen (K := K)) (by rfl) T.z_len (by decide +kernel) (pa_cons (pv 0) pa_nil)) (nomark _)) (pss_one (ps_ret (pe_op op_mod (pe_callTy call_int1 (by rfl) T.z_int (by decide +kernel) (pa_cons (pe_ix (kixl (K := K)) (pv 0) (pv 3) (fun _ _ => rfl)) pa_nil)) (pv 2)))) pss_nil)
      (pss_one (ps_ret pe_int))))), ?_⟩
  walk_at "rds"
  refine ⟨A, _, (0 : Int), _, rfl, rfl, sq hA, atI_nat (j := 0) rfl, ?_⟩
  walk_at "rds"
  refine ⟨A, _, (0 : Int), 0, rfl, rfl, hA, rfl, ?_⟩
  have hD' : (upd H A (.lst [.int ((n : Int) + 1)])) D = some (.lst (ds.map V.int)) := by rw [upd_ne ne]; exact hD
  have md : Mod A H (upd H A (.lst [.int ((n : Int) + 1)])) := fun b o hb e => by rw [upd_ne hb]; exact e
  have dr' : Dr (upd H A (.lst [.int ((n : Int) + 1)])) D A := ⟨ne, ds, n + 1, hD', upd_same, hrg, hle⟩
  walk_at "rds"
  refine ⟨D, _, rfl, .inl (sq hD'), ?_⟩
  walk_at "rds"
  refine ite2 (fun e => ?_) (fun e => ?_)
  · have e := of_decide_eq_true e
    rw [List.length_map] at e
    have e1 : n < ds.length := by omega
    have g : (ds.map V.int)[n]? = some (.int ds[n]) := by
      rw [List.getElem?_map, List.getElem?_eq_getElem e1]; rfl
    walk_at "rds"
    refine ⟨D, _, (n : Int), _, rfl, rfl, sq hD', atI_nat g, ?_⟩
    walk_at "rds"
    exact q _ _ (Int.emod_nonneg _ (by omega)) (Int.emod_lt_of_pos _ (by omega)) md dr'
  · exact q _ _ (by omega) (by omega) md dr'
theorem c__law_draws {C_Group : Addr} {C_BadGroup : Addr} {C_BadLetter : Addr} {C_BadText : Addr} {C_FORMS : Addr} {C_CONSTANTS : Addr} (T : Txt K mg w C_Group C_BadGroup C_BadLetter C_BadText C_FORMS C_CONSTANTS) : Cal P w K mg base 1 "_law_draws" (spDraws K) [] := by
  refine cal T.d__law_draws sc__law_draws (fun vs H Q E h => ?_) (fun f cdv A outer s H vs Q E hr h => ?_)
  · obtain ⟨a, ns, rfl, _⟩ := h; rfl
  obtain ⟨a, ns, rfl, hS, hlen, q⟩ := h
  refine ⟨_, (pss_cons (ps_set (i := 1) sc__law_draws.nd rfl (Or.inl rfl) (pe_lst pa_nil))
      (pss_cons (ps_for PassesOwn.never rfl (pi_range1 (by rfl) T.z_range (pa_cons (pe_callB (klen (K := K)) (by rfl) T.z_len (by decide +kernel) (pa_cons (pv 0) pa_nil)) pa_nil)) (pg_name (i := 2) sc__law_draws.nd rfl (Or.inl rfl)) (pss_cons (ps_set (i := 3) sc__law_draws.nd rfl (Or.inl rfl) (pe_callB call_abs (by rfl) T.z_abs (by decide +kernel) (pa_cons (pe_ix (kixl (K := K)) (pv 0) (pv 2) (fun _ _ => rfl)) pa_nil)))
      (pss_one (ps_if (pt_cmpR op_ge (pv 3) (pe_op op_pow pe_int pe_int) (nomark _)) (pss_one (ps_for PassesOwn.never rfl (pi_range1 (by rfl) T.z_range (pa_cons pe_int pa_nil)) (pg_name (i := 4) sc__law_draws.nd rfl (Or.inl rfl)) (pss_cons (ps_expr (pe_bm PySem.F.plainAttrs_list PySem.F.slot_list_append PySem.F.type_list_append mt_append (pv 1) (pa_cons (pe_op op_mod (pe_callTy call_int1 (by rfl) T.z_int (by decide +kernel) (pa_cons (pv 3) pa_nil)) pe_int) pa_nil)))
      (pss_one (ps_set (i := 3) sc__law_draws.nd rfl (Or.inl rfl) (pe_op op_fdiv (pv 3) pe_int)))))) (pss_cons (ps_set (i := 5) sc__law_draws.nd rfl (Or.inl rfl) (pe_op op_add (pv 3) pe_int))
      (pss_one (ps_for PassesOwn.never rfl (pi_range1 (by rfl) T.z_range (pa_cons pe_int pa_nil)) (pg_name (i := 4) sc__law_draws.nd rfl (Or.inl rfl)) (pss_cons (ps_set (i := 5) sc__law_draws.nd rfl (Or.inl rfl) (pe_op op_mod (pe_callTy call_int1 (by rfl) T.z_int (by decide +kernel) (pa_cons (pe_op op_add (pe_op op_add (pe_op op_mul (pv 5) pe_int) (pe_op op_mul pe_int (pe_op op_add (pv 2) (pv 4)))) pe_int) pa_nil)) pe_int))
      (pss_cons (ps_set (i := 5) sc__law_draws.nd rfl (Or.inl rfl) (pe_op op_mod (pe_callTy call_int1 (by rfl) T.z_int (by decide +kernel) (pa_cons (pe_op op_add (pe_op op_mul (pv 5) pe_int) pe_int) pa_nil)) pe_int))
      (pss_one (ps_expr (pe_bm PySem.F.plainAttrs_list PySem.F.slot_list_append PySem.F.type_list_append mt_append (pv 1) (pa_cons (pe_op op_mod (pe_callTy call_int1 (by rfl) T.z_int (by decide +kernel) (pa_cons (pe_op op_fdiv (pv 5) pe_int) pa_nil)) pe_int) pa_nil)))))))))))))
      (pss_one (ps_ret (pv 1))))), ?_⟩
  refine ⟨by decide, fun D hD => ?_⟩
  walk_at "rds"
  refine ⟨a, _, rfl, .inl ((same_upd hD).seq hS), ?_⟩
  refine ⟨_, rfl, by rw [List.length_map]; omega, by rw [List.length_map]; omega, ?_⟩
  refine for_it walk_range (Pv := fun i σ H' => ∃ y2 y3 y4 y5 ds, σ = [some (.ref a), some (.ref D), y2, y3, y4, y5] ∧ Same H H' ∧ H' D = some (.lst (ds.map V.int)) ∧ (∀ d ∈ ds, 0 ≤ d ∧ d < 1000) ∧ ds.length ≤ 40 * i) ⟨none, none, none, none, [], rfl, same_upd hD, upd_same, by simp, by simp⟩ (fun _ _ _ _ _ => trivial) (fun i x σ H1 H2 hi hp hy => ?_) (fun σ H1 hp => ?_)
  · obtain ⟨y2, y3, y4, y5, ds, rfl, sm, hd, hrg, hl⟩ := hp
    obtain ⟨rfl, rfl⟩ := hy
    have hi' : i < ns.length := by rw [List.length_map] at hi; omega
    have g : (ns.map V.int)[i]? = some (.int ns[i]) := by
      rw [List.getElem?_map, List.getElem?_eq_getElem hi']; rfl
    have e0 : (0 : Int) + (i : Int) = (i : Int) := by omega
    walk_at "rds"
    refine ⟨a, _, (i : Int), _, rfl, by show V.int (0 + (i : Int)) = V.int i; rw [e0], sm.seq hS, atI_nat g, ?_⟩
    walk_at "rds"
    have hc0 : (0 : Int) ≤ (if ns[i] < 0 then -ns[i] else ns[i]) := by split <;> omega
    generalize (if ns[i] < 0 then -ns[i] else ns[i]) = c at hc0
    refine ite2 (fun e => ?_) (fun e => ?_)
    · refine ⟨40, rfl, by decide, by decide, ?_⟩
      refine for_it walk_range (Pv := fun j σ H' => ∃ y4 ds c, σ = [some (.ref a), some (.ref D), some (.int (0 + (i : Int))), some (.int c), y4, y5] ∧ Same H H' ∧ H' D = some (.lst (ds.map V.int)) ∧ (∀ d ∈ ds, 0 ≤ d ∧ d < 1000) ∧ ds.length ≤ 40 * i + j ∧ 0 ≤ c) ⟨y4, ds, c, rfl, sm, hd, hrg, by omega, hc0⟩ (fun _ _ _ _ _ => trivial) (fun j x σ H3 H4 hj hp hy => ?_) (fun σ H3 hp => ?_)
      · obtain ⟨z4, ds, c, rfl, sm, hd, hrg, hl, hc0⟩ := hp
        obtain ⟨rfl, rfl⟩ := hy
        refine ⟨.ref D, rfl, .inl ⟨rfl, _, sq hd⟩, ?_⟩
        walk_at "rds"
        have hj' : j < 40 := hj
        refine ⟨_, _, _, rfl, rfl, hd, by rw [List.length_map]; exact sz1000' (by omega), ?_⟩
        refine ⟨_, rfl, _, _, rfl, rfl, ⟨by decide, by decide⟩, ?_⟩
        refine ⟨_, ds ++ [c % 1000], c / 1000, rfl, same_mut sm hD, lst_app, rng_app hrg (by omega) (by omega), ?_, by omega⟩
        rw [List.length_append, List.length_singleton]; omega
      · obtain ⟨z4, ds, c, rfl, sm, hd, hrg, hl, hc0⟩ := hp
        exact ⟨_, _, _, _, ds, rfl, sm, hd, hrg, by have : (40 : Int).toNat = 40 := rfl; omega⟩
    · have hc1 : c < 10 ^ 18 := by
        have : ¬ ((10 : Int) ^ (18 : Int).toNat ≤ c) := fun z => e (decide_eq_true z)
        have e18 : (10 : Int) ^ (18 : Int).toNat = 10 ^ 18 := rfl
        omega
      walk_at "rds"
      refine for_it walk_range (Pv := fun j σ H' => ∃ y4 ds m, σ = [some (.ref a), some (.ref D), some (.int (0 + (i : Int))), some (.int c), y4, some (.int m)] ∧ Same H H' ∧ H' D = some (.lst (ds.map V.int)) ∧ (∀ d ∈ ds, 0 ≤ d ∧ d < 1000) ∧ ds.length ≤ 40 * i + j ∧ 0 ≤ m ∧ m ≤ 10 ^ 18) ⟨y4, ds, _, rfl, sm, hd, hrg, by omega, by omega, by omega⟩ (fun _ _ _ _ _ => trivial) (fun j x σ H3 H4 hj hp hy => ?_) (fun σ H3 hp => ?_)
      · obtain ⟨z4, ds, m, rfl, sm, hd, hrg, hl, hm0, hm1⟩ := hp
        obtain ⟨rfl, rfl⟩ := hy
        have hj' : j < 8 := hj
        walk_at "rds"
        refine ⟨.inl ⟨rfl, _, sq hd⟩, ?_⟩
        walk_at "rds"
        refine ⟨_, _, _, rfl, rfl, hd, by rw [List.length_map]; exact sz1000' (by omega), ?_⟩
        refine ⟨_, ds ++ [_], _, rfl, same_mut sm hD, lst_app, rng_app hrg (by omega) (by omega), ?_, by omega, by omega⟩
        rw [List.length_append, List.length_singleton]; omega
      · obtain ⟨z4, ds, m, rfl, sm, hd, hrg, hl, hm0, hm1⟩ := hp
        exact ⟨_, _, _, _, ds, rfl, sm, hd, hrg, by have : (8 : Int).toNat = 8 := rfl; omega⟩
  · obtain ⟨y2, y3, y4, y5, ds, rfl, sm, hd, hrg, hl⟩ := hp
    refine ⟨.ref D, rfl, ?_⟩
    refine q _ _ _ sm hD hd hrg ?_
    rw [List.length_map] at hl; omega
end

/-! ### drawn numbers and strings -/
def prC (c : Nat) : Bool := decide (32 ≤ c) && decide (c ≤ 126) && decide (c ≠ 37)
def isPr (z : Str) : Bool := z.cps.toList.all prC
theorem app_tl (a b : Str) : (a ++ b).cps.toList = a.cps.toList ++ b.cps.toList := by
  show (a.cps ++ b.cps).toList = _
  rw [Array.toList_append]
theorem len_tl (z : Str) : z.cps.toList.length = z.length := Array.length_toList
theorem isPr_app (a b : Str) : isPr (a ++ b) = (isPr a && isPr b) := by
  unfold isPr
  rw [app_tl, List.all_append]

def spBig : Sp := fun vs H Q _ => ∃ (D A : Addr) (m : Int), vs = [.ref D, .ref A, .int m] ∧ Dr H D A ∧ 1 ≤ m ∧
  ∀ (H' : Hp) (r : Int), 0 ≤ r → r < m → Mod A H H' → Dr H' D A → Q (.int r) H'
def spChar : Sp := fun vs H Q _ => ∃ (n : Int), vs = [.int n] ∧ ∀ c : Nat, prC c = true → Q (.str ⟨#[c]⟩) H
def spString : Sp := fun vs H Q _ => ∃ (D A : Addr) (m : Int), vs = [.ref D, .ref A, .int m] ∧ Dr H D A ∧ 5 ≤ m ∧ m ≤ 1000000 ∧
  ∀ (H' : Hp) (z : Str), z.length ≤ m → isPr z = true → Mod A H H' → Dr H' D A → Q (.str z) H'
section
variable {P : Program} {w : World} {K : PySem.W.Frag} {mg : Str → Option Value} {base : Heap}
theorem c__law_big {C_Group : Addr} {C_BadGroup : Addr} {C_BadLetter : Addr} {C_BadText : Addr} {C_FORMS : Addr} {C_CONSTANTS : Addr} (T : Txt K mg w C_Group C_BadGroup C_BadLetter C_BadText C_FORMS C_CONSTANTS) : Cal P w K mg base 2 "_law_big" spBig [] := by
  have c__law_next := c__law_next (P := P) (w := w) (base := base) T
  refine cal T.d__law_big sc__law_big (fun vs H Q E h => ?_) (fun f cdv A' outer s H vs Q E hr h => ?_)
  · obtain ⟨D, A, m, rfl, _⟩ := h; rfl
  obtain ⟨D, A, m, rfl, dr, hm, q⟩ := h
  refine ⟨_, (pss_cons (ps_set (i := 3) sc__law_big.nd rfl (Or.inl rfl) pe_int)
      (pss_cons (ps_for PassesOwn.never rfl (pi_range1 (by rfl) T.z_range (pa_cons pe_int pa_nil)) (pg_name (i := 4) sc__law_big.nd rfl (Or.inl rfl)) (pss_one (ps_set (i := 3) sc__law_big.nd rfl (Or.inl rfl) (pe_op op_add (pe_op op_mul pe_int (pv 3)) (pe_c c__law_next hr (by omega) (by rfl) (pa_cons (pv 0) (pa_cons (pv 1) (pa_cons pe_int pa_nil))))))))
      (pss_one (ps_ret (pe_op op_mod (pe_callTy call_int1 (by rfl) T.z_int (by decide +kernel) (pa_cons (pv 3) pa_nil)) (pv 2)))))), ?_⟩
  walk_at "rds"
  refine for_it walk_range (Pv := fun i σ H' => ∃ (n : Int) (y : Option V), σ = [some (.ref D), some (.ref A), some (.int m), some (.int n), y] ∧ 0 ≤ n ∧ Mod A H H' ∧ Dr H' D A) ⟨0, none, rfl, by decide, Mod.refl, dr⟩ (fun _ _ _ _ _ => trivial) (fun i x σ H1 H2 hi hp hy => ?_) (fun σ H1 hp => ?_)
  · obtain ⟨n, y, rfl, hn, md, dr⟩ := hp
    obtain ⟨rfl, rfl⟩ := hy
    walk_at "rds"
    refine ⟨D, A, 1000, rfl, dr, by decide, fun H3 r r0 r1 md3 dr3 => ?_⟩
    walk_at "rds"
    exact ⟨_, _, rfl, by omega, md.trans md3, dr3⟩
  · obtain ⟨n, y, rfl, hn, md, dr⟩ := hp
    walk_at "rds"
    exact q _ _ (Int.emod_nonneg _ (by omega)) (Int.emod_lt_of_pos _ (by omega)) md dr
theorem c__law_char {C_Group : Addr} {C_BadGroup : Addr} {C_BadLetter : Addr} {C_BadText : Addr} {C_FORMS : Addr} {C_CONSTANTS : Addr} (T : Txt K mg w C_Group C_BadGroup C_BadLetter C_BadText C_FORMS C_CONSTANTS) : Cal P w K mg base 1 "_law_char" spChar [] := by
  refine cal T.d__law_char sc__law_char (fun vs H Q E h => ?_) (fun f cdv A' outer s H vs Q E hr h => ?_)
  · obtain ⟨n, rfl, _⟩ := h; rfl
  obtain ⟨n, rfl, q⟩ := h
  refine ⟨_, (pss_cons (ps_set (i := 1) sc__law_char.nd rfl (Or.inl rfl) pe_str)
      (pss_cons (ps_set (i := 1) sc__law_char.nd rfl (Or.inl rfl) (pe_op op_add_str (pv 1) pe_str))
      (pss_one (ps_ret (pe_ix ix_str (pv 1) (pe_op op_mod (pe_callTy call_int1 (by rfl) T.z_int (by decide +kernel) (pa_cons (pv 0) pa_nil)) pe_int) (fun _ _ => rfl)))))), ?_⟩
  walk_at "rds"
  have e94 : ∀ z : Str, z = Str.ofString " !\"#$&'()*+,-./0123456789:;<=>?@ABCDEFGHIJKLMNOPQRSTUVWXYZ[\\]^_`" ++ Str.ofString "abcdefghijklmnopqrstuvwxyz{|}~" → z.length = 94 ∧ isPr z = true := by
    intro z e; subst e; exact ⟨by decide +kernel, by decide +kernel⟩
  generalize Str.ofString " !\"#$&'()*+,-./0123456789:;<=>?@ABCDEFGHIJKLMNOPQRSTUVWXYZ[\\]^_`" ++ Str.ofString "abcdefghijklmnopqrstuvwxyz{|}~" = z at e94
  obtain ⟨hz, hp⟩ := e94 z rfl
  obtain ⟨c, hc⟩ := chr_at (z := z) (i := n % 94) (by omega) (by rw [hz]; omega)
  have hm : c ∈ z.cps.toList := by
    obtain ⟨j, _, e, _⟩ := atI_get hc
    exact List.mem_of_getElem? e
  refine ⟨_, _, c, rfl, rfl, by rw [hz]; exact sz1000 (by omega), hc, ?_⟩
  exact q c (List.all_eq_true.mp hp c hm)
theorem c__law_string {C_Group : Addr} {C_BadGroup : Addr} {C_BadLetter : Addr} {C_BadText : Addr} {C_FORMS : Addr} {C_CONSTANTS : Addr} (T : Txt K mg w C_Group C_BadGroup C_BadLetter C_BadText C_FORMS C_CONSTANTS) : Cal P w K mg base 2 "_law_string" spString [] := by
  have c__law_next := c__law_next (P := P) (w := w) (base := base) T
  have c__law_char := c__law_char (P := P) (w := w) (base := base) T
  refine cal T.d__law_string sc__law_string (fun vs H Q E h => ?_) (fun f cdv A' outer s H vs Q E hr h => ?_)
  · obtain ⟨D, A, m, rfl, _⟩ := h; rfl
  obtain ⟨D, A, m, rfl, dr, hm, hm2, q⟩ := h
  refine ⟨_, (pss_cons (ps_set (i := 3) sc__law_string.nd rfl (Or.inl rfl) (pe_c c__law_next hr (by omega) (by rfl) (pa_cons (pv 0) (pa_cons (pv 1) (pa_cons pe_int pa_nil)))))
      (pss_cut (ps_if (pt_cmpR op_eq (pe_c c__law_next hr (by omega) (by rfl) (pa_cons (pv 0) (pa_cons (pv 1) (pa_cons pe_int pa_nil)))) pe_int (nomark _)) (pss_one (ps_set (i := 3) sc__law_string.nd rfl (Or.inl rfl) (pe_c c__law_next hr (by omega) (by rfl) (pa_cons (pv 0) (pa_cons (pv 1) (pa_cons (pe_op op_add (pv 2) pe_int) pa_nil)))))) pss_nil)
      (pss_cut (ps_if (pt_cmpR op_eq (pe_c c__law_next hr (by omega) (by rfl) (pa_cons (pv 0) (pa_cons (pv 1) (pa_cons pe_int pa_nil)))) pe_int (nomark _)) (pss_one (ps_set (i := 3) sc__law_string.nd rfl (Or.inl rfl) (pv 2))) pss_nil)
      (pss_cons (ps_set (i := 4) sc__law_string.nd rfl (Or.inl rfl) (pe_c c__law_next hr (by omega) (by rfl) (pa_cons (pv 0) (pa_cons (pv 1) (pa_cons pe_int pa_nil)))))
      (pss_cons (ps_set (i := 5) sc__law_string.nd rfl (Or.inl rfl) (pe_c c__law_next hr (by omega) (by rfl) (pa_cons (pv 0) (pa_cons (pv 1) (pa_cons pe_int pa_nil)))))
      (pss_cons (ps_set (i := 6) sc__law_string.nd rfl (Or.inl rfl) pe_str)
      (pss_cons (ps_for PassesOwn.never rfl (pi_range1 (by rfl) T.z_range (pa_cons (pv 3) pa_nil)) (pg_name (i := 7) sc__law_string.nd rfl (Or.inl rfl)) (pss_one (ps_if (pt_cmpR op_lt (pv 7) pe_int (nomark _)) (pss_one (ps_set (i := 6) sc__law_string.nd rfl (Or.inl rfl) (pe_op op_add_str (pv 6) (pe_c c__law_char hr (by omega) (by rfl) (pa_cons (pe_c c__law_next hr (by omega) (by rfl) (pa_cons (pv 0) (pa_cons (pv 1) (pa_cons pe_int pa_nil)))) pa_nil))))) (pss_one (ps_set (i := 6) sc__law_string.nd rfl (Or.inl rfl) (pe_op op_add_str (pv 6) (pe_c c__law_char hr (by omega) (by rfl) (pa_cons (pe_op op_add (pv 4) (pe_op op_mul (pv 5) (pv 7))) pa_nil))))))))
      (pss_one (ps_ret (pv 6)))))))))), ?_⟩
  walk_at "rds"
  refine ⟨D, A, 6, rfl, dr, by decide, fun H1 s1 s10 s11 md1 dr1 => ?_⟩
  obtain ⟨s1, rfl⟩ := Int.eq_ofNat_of_zero_le s10
  refine ⟨fun σ' H' => ∃ n : Nat, σ' = [some (.ref D), some (.ref A), some (.int m), some (.int n), none, none, none, none] ∧ (n : Int) ≤ m ∧ Mod A H H' ∧ Dr H' D A, ?_, ?_⟩
  · walk_at "rds"
    refine ⟨D, A, 7, rfl, dr1, by decide, fun H2 s2 s20 s21 md2 dr2 => ?_⟩
    walk_at "rds"
    refine ite2 (fun _ => ?_) (fun _ => ?_)
    · walk_at "rds"
      refine ⟨D, A, _, rfl, dr2, by omega, fun H3 s3 s30 s31 md3 dr3 => ?_⟩
      obtain ⟨s3, rfl⟩ := Int.eq_ofNat_of_zero_le s30
      exact ⟨s3, rfl, by omega, (md1.trans md2).trans md3, dr3⟩
    · exact ⟨s1, rfl, by omega, md1.trans md2, dr2⟩
  rintro σ' H2 ⟨n, rfl, hn, md2, dr2⟩
  refine ⟨fun σ' H' => ∃ n : Nat, σ' = [some (.ref D), some (.ref A), some (.int m), some (.int n), none, none, none, none] ∧ (n : Int) ≤ m ∧ Mod A H H' ∧ Dr H' D A, ?_, ?_⟩
  · walk_at "rds"
    refine ⟨D, A, 9, rfl, dr2, by decide, fun H3 s3 s30 s31 md3 dr3 => ?_⟩
    walk_at "rds"
    obtain ⟨m, rfl⟩ := Int.eq_ofNat_of_zero_le (show 0 ≤ m by omega)
    refine ite2 (fun _ => ?_) (fun _ => ?_)
    · walk_at "rds"
      exact ⟨m, rfl, by omega, md2.trans md3, dr3⟩
    · exact ⟨n, rfl, by omega, md2.trans md3, dr3⟩
  rintro σ' H3 ⟨n, rfl, hn, md3, dr3⟩
  walk_at "rds"
  refine ⟨D, A, 94, rfl, dr3, by decide, fun H4 f1 f10 f11 md4 dr4 => ?_⟩
  walk_at "rds"
  refine ⟨D, A, 3, rfl, dr4, by decide, fun H5 f2 f20 f21 md5 dr5 => ?_⟩
  walk_at "rds"
  refine for_it walk_range (Pv := fun i σ H' => ∃ (z : Str) (y : Option V), σ = [some (.ref D), some (.ref A), some (.int m), some (.int n), some (.int f1), some (.int f2), some (.str z), y] ∧ z.length = i ∧ isPr z = true ∧ Mod A H H' ∧ Dr H' D A) ⟨Str.ofString "", none, rfl, by decide, by decide, (md3.trans md4).trans md5, dr5⟩ (fun _ _ _ _ _ => trivial) (fun i x σ H6 H7 hi hp hy => ?_) (fun σ H6 hp => ?_)
  · obtain ⟨z, y, rfl, hz, hpz, md, dr⟩ := hp
    obtain ⟨rfl, rfl⟩ := hy
    have hi' : i < n := by omega
    have one : ∀ c : Nat, prC c = true → (z ++ ⟨#[c]⟩ : Str).length = i + 1 ∧ isPr (z ++ ⟨#[c]⟩) = true := fun c hc => by
      refine ⟨by rw [Str.length_append, hz]; rfl, ?_⟩
      rw [isPr_app, hpz]
      show (true && List.all [c] prC) = true
      rw [List.all_cons, hc]; rfl
    walk_at "rds"
    refine ite2 (fun _ => ?_) (fun _ => ?_)
    · walk_at "rds"
      refine ⟨D, A, 94, rfl, dr, by decide, fun H8 f3 f30 f31 md8 dr8 => ?_⟩
      refine ⟨f3, rfl, fun c hc => ?_⟩
      have l1 : (⟨#[c]⟩ : Str).length = 1 := rfl
      refine ⟨_, _, rfl, rfl, by rw [l1]; exact sz1000'' (by omega), ?_⟩
      exact ⟨_, _, rfl, (one c hc).1, (one c hc).2, md.trans md8, dr8⟩
    · walk_at "rds"
      intro c hc
      have l1 : (⟨#[c]⟩ : Str).length = 1 := rfl
      refine ⟨_, _, rfl, rfl, by rw [l1]; exact sz1000'' (by omega), ?_⟩
      exact ⟨_, _, rfl, (one c hc).1, (one c hc).2, md, dr⟩
  · obtain ⟨z, y, rfl, hz, hpz, md, dr⟩ := hp
    walk_at "rds"
    exact q _ z (by omega) hpz md dr
end

/-! ### is_integer, is_printable -/
/-- no int, told by its type -/
def NoInt (K : PySem.W.Frag) (H : Hp) (v : V) : Prop := ∃ T, TyX K H v (.type T) ∧ (kitB T "int" = some false ∨ (kitB T "int" = some true ∧ kitB T "bool" = some true))
def spInt (K : PySem.W.Frag) : Sp := fun vs H Q _ => ∃ (v : V) (lo hi : Int), vs = [v, .int lo, .int hi] ∧ ((∃ i, v = .int i ∧ Q (.bl (decide (lo ≤ i ∧ i ≤ hi))) H) ∨ (NoInt K H v ∧ Q (.bl false) H))
section
variable {P : Program} {w : World} {K : PySem.W.Frag} {mg : Str → Option Value} {base : Heap}
theorem c_is_integer {C_Group : Addr} {C_BadGroup : Addr} {C_BadLetter : Addr} {C_BadText : Addr} {C_FORMS : Addr} {C_CONSTANTS : Addr} (T : Txt K mg w C_Group C_BadGroup C_BadLetter C_BadText C_FORMS C_CONSTANTS) : Cal P w K mg base 1 "is_integer" (spInt K) [] := by
  refine cal T.d_is_integer sc_is_integer (fun vs H Q E h => ?_) (fun f cdv A outer s H vs Q E hr h => ?_)
  · obtain ⟨v, lo, hi, rfl, _⟩ := h; rfl
  obtain ⟨v, lo, hi, rfl, h⟩ := h
  refine ⟨_, (pss_one (ps_ret (pe_and (pe_callB (kisi (K := K)) (by rfl) T.z_isinstance (by decide +kernel) (pa_cons (pv 0) (pa_cons (pe_bltn (v := .ty "int") (by rfl) T.z_int (by decide +kernel) rfl) pa_nil))) (pe_and (pe_not (pe_callB (kisi (K := K)) (by rfl) T.z_isinstance (by decide +kernel) (pa_cons (pv 0) (pa_cons (pe_bltn (v := .ty "bool") (by rfl) T.z_bool (by decide +kernel) rfl) pa_nil)))) (pe_one (pe_chain op_le op_le (pv 1) (pv 0) (pv 2))))))), ?_⟩
  rcases h with ⟨i, rfl, q⟩ | ⟨⟨T, ty, hk⟩, q⟩
  · walk_at "rds"
    walk_at "isi"
    walk_at "rds"
    walk_at "isi"
    walk_at "rds"
    refine ite2 (fun e => ?_) (fun e => ?_)
    · have e := of_decide_eq_true e
      walk_at "rds"
      have e2 : decide (lo ≤ i ∧ i ≤ hi) = decide (i ≤ hi) := by simp [e]
      rw [e2] at q
      exact q
    · have e : ¬ lo ≤ i := fun z => e (decide_eq_true z)
      have e2 : decide (lo ≤ i ∧ i ≤ hi) = false := by simp [e]
      rw [e2] at q
      exact q
  · walk_at "rds"
    rcases hk with hk | ⟨hk, hb⟩
    · refine ⟨_, .ty _, _, _, false, rfl, .ty _, ty, kit_ty hk, ?_⟩
      walk_at "rds"
      exact q
    · refine ⟨_, .ty _, _, _, true, rfl, .ty _, ty, kit_ty hk, ?_⟩
      walk_at "rds"
      refine ⟨_, .ty _, _, _, true, rfl, .ty _, ty, kit_ty hb, ?_⟩
      walk_at "rds"
      exact q
end
def NoStr (K : PySem.W.Frag) (H : Hp) (v : V) : Prop := ∃ T, TyX K H v (.type T) ∧ kitB T "str" = some false
def spPrint (K : PySem.W.Frag) : Sp := fun vs H Q _ => ∃ (v : V), vs = [v] ∧ ((∃ z : Str, v = .str z ∧ z.length ≤ 16000000 ∧ ∀ H', Same H H' → Q (.bl (isPr z)) H') ∨ (NoStr K H v ∧ Q (.bl false) H))
theorem print128 : ∀ c : Nat, c < 128 → (Unicode.isPrintable c = true ↔ (32 ≤ c ∧ c ≤ 126)) := by
  intro c hc
  have h : ∀ c : Fin 128, (Unicode.isPrintable c.val = true ↔ (32 ≤ c.val ∧ c.val ≤ 126)) := by decide +kernel
  exact h ⟨c, hc⟩
theorem asc_list {z : Str} : Txt.isascii z = true ↔ ∀ c ∈ z.cps.toList, c < 128 := by
  unfold Txt.isascii
  rw [← Array.all_toList, List.all_eq_true]
  simp
theorem pri_list {z : Str} : Txt.isprintable z = true ↔ ∀ c ∈ z.cps.toList, Unicode.isPrintable c = true := by
  unfold Txt.isprintable
  rw [← Array.all_toList, List.all_eq_true]
theorem isPr_iff {z : Str} : isPr z = true ↔ ∀ c ∈ z.cps.toList, 32 ≤ c ∧ c ≤ 126 ∧ c ≠ 37 := by
  unfold isPr
  rw [List.all_eq_true]
  simp [prC, and_assoc]
theorem out37_len {l : List Nat} : (out37 l).length = l.length ↔ ∀ c ∈ l, c ≠ 37 := by
  unfold out37
  rw [List.length_filter_eq_length_iff]
  simp
section
variable {P : Program} {w : World} {K : PySem.W.Frag} {mg : Str → Option Value} {base : Heap}
theorem c_is_printable {C_Group : Addr} {C_BadGroup : Addr} {C_BadLetter : Addr} {C_BadText : Addr} {C_FORMS : Addr} {C_CONSTANTS : Addr} (T : Txt K mg w C_Group C_BadGroup C_BadLetter C_BadText C_FORMS C_CONSTANTS) : Cal P w K mg base 1 "is_printable" (spPrint K) [] := by
  refine cal T.d_is_printable sc_is_printable (fun vs H Q E h => ?_) (fun f cdv A outer s H vs Q E hr h => ?_)
  · obtain ⟨v, rfl, _⟩ := h; rfl
  obtain ⟨v, rfl, h⟩ := h
  refine ⟨_, (pss_cons (ps_if (PW.pt (pw_or (pt_not (pt_val (pe_callB (kisi (K := K)) (by rfl) T.z_isinstance (by decide +kernel) (pa_cons (pv 0) (pa_cons (pe_bltn (v := .ty "str") (by rfl) T.z_str (by decide +kernel) rfl) pa_nil))))) (pw_or (pt_not (pt_val (pe_bm0 PySem.F.plainAttrs_str PySem.F.slot_str_isascii PySem.F.type_str_isascii mt_isascii (pv 0)))) (pw_or1 (pt_not (pt_val (pe_bm0 PySem.F.plainAttrs_str PySem.F.slot_str_isprintable PySem.F.type_str_isprintable mt_isprintable (pv 0)))))))) (pss_one (ps_ret pe_bl)) pss_nil)
      (pss_one (ps_ret (pe_cmpR op_eq (pe_callB call_len_str (by rfl) T.z_len (by decide +kernel) (pa_cons (pe_bm PySem.F.plainAttrs_str PySem.F.slot_str_translate PySem.F.type_str_translate (mt_tr37 rfl) (pv 0) (pa_cons (pe_disp (pps_cons pe_int pe_non pps_nil) rfl rfl (by intro z; cases z) (by decide)) pa_nil)) pa_nil)) (pe_callB call_len_str (by rfl) T.z_len (by decide +kernel) (pa_cons (pv 0) pa_nil)) (nomark _))))), ?_⟩
  rcases h with ⟨z, rfl, hz, q⟩ | ⟨⟨T, ty, hk⟩, q⟩
  · walk_at "rds"
    walk_at "isi"
    walk_at "rds"
    refine ⟨rfl, _, rfl, rfl, trivial, ?_⟩
    walk_at "rds"
    cases ha : Txt.isascii z with
    | false =>
      have e : isPr z = false := by
        cases e : isPr z with
        | false => rfl
        | true =>
          have := asc_list.mpr (fun c hc => by have := isPr_iff.mp e c hc; omega)
          rw [ha] at this; cases this
      rw [e] at q
      walk_at "rds"
      exact q H (Same.refl H)
    | true =>
      have ha := asc_list.mp ha
      walk_at "rds"
      refine ⟨rfl, _, rfl, rfl, trivial, ?_⟩
      walk_at "rds"
      cases hp : Txt.isprintable z with
      | false =>
        have e : isPr z = false := by
          cases e : isPr z with
          | false => rfl
          | true =>
            have := pri_list.mpr (fun c hc => by have := isPr_iff.mp e c hc; exact (print128 c (by omega)).mpr ⟨by omega, by omega⟩)
            rw [hp] at this; cases this
        rw [e] at q
        walk_at "rds"
        exact q H (Same.refl H)
      | true =>
        have hp := pri_list.mp hp
        walk_at "rds"
        refine ⟨rfl, fun p np => ?_⟩
        refine ⟨upd_same, [(Sum.inl 37, .non)], rfl, by decide, ?_⟩
        refine ⟨z, p, rfl, rfl, upd_same, ha, hz, ?_⟩
        have l37 : (SX.S (out37 z.cps.toList)).length ≤ 16000000 := by
          rw [SX.S_len]
          exact Nat.le_trans (List.length_filter_le _ _) (by rw [len_tl]; exact hz)
        walk_at "rds"
        have e : decide (V.int ((SX.S (out37 z.cps.toList)).length : Int) = V.int (z.length : Int)) = isPr z := by
          rw [SX.S_len]
          have hl := @out37_len z.cps.toList
          rw [len_tl] at hl
          cases e : isPr z with
          | true =>
            refine decide_eq_true ?_
            rw [hl.mpr (fun c hc => (isPr_iff.mp e c hc).2.2)]
          | false =>
            refine decide_eq_false fun z' => ?_
            have h1 := hl.mp (Int.ofNat.inj (V.int.inj z'))
            have : isPr z = true := isPr_iff.mpr (fun c hc => ⟨((print128 c (ha c hc)).mp (hp c hc)).1, ((print128 c (ha c hc)).mp (hp c hc)).2, h1 c hc⟩)
            rw [e] at this; cases this
        rw [← e] at q
        exact q _ (same_mut (same_upd np) np)
  · walk_at "rds"
    refine ⟨_, .ty _, _, _, false, rfl, .ty _, ty, kit_ty hk, ?_⟩
    walk_at "rds"
    exact q
end


/-! ### values as data: what stands at them does not change -/
def TupAt (K : PySem.W.Frag) (H : Hp) (a : Addr) (xs : List V) : Prop := H a = some (.tup xs) ∨ KTup K a xs
section
variable {K : PySem.W.Frag}
theorem TupAt.sq {H : Hp} {a : Addr} {xs : List V} (h : TupAt K H a xs) : SqT K H a xs := h.elim SqT.of .inr
theorem TupAt.ty {H : Hp} {a : Addr} {xs : List V} (h : TupAt K H a xs) : TyX K H (.ref a) (.type "tuple") := h.elim (fun h => .base (.tup h)) (fun ⟨_, _, _, h1, h2, _⟩ => .kTuple h1 h2)
theorem TupAt.same {H H' : Hp} {a : Addr} {xs : List V} (h : TupAt K H a xs) (s : Same H H') : TupAt K H' a xs := h.imp (s _ _) id
/-- none of those at A (none: no matter) -/
def NeA (A : Option Addr) (a : Addr) : Prop := match A with | some b => a ≠ b | none => True
mutual
/-- v is the data d; the lists in it are none of those at A -/
inductive Dt (K : PySem.W.Frag) (H : Hp) (A : Option Addr) : V → PyData → Prop
  | non : Dt K H A .non .none
  | bl (b : Bool) : Dt K H A (.bl b) (.bool b)
  | int (i : Int) : Dt K H A (.int i) (.int i)
  | str (z : Str) (h : z.length ≤ 1000000) : Dt K H A (.str z) (.str z)
  | lst {a : Addr} {xs : List V} {ds : List PyData} : NeA A a → H a = some (.lst xs) → DtAll K H A xs ds → Dt K H A (.ref a) (.list ds)
  | tup {a : Addr} {xs : List V} {ds : List PyData} : TupAt K H a xs → DtAll K H A xs ds → Dt K H A (.ref a) (.tuple ds)
inductive DtAll (K : PySem.W.Frag) (H : Hp) (A : Option Addr) : List V → List PyData → Prop
  | nil : DtAll K H A [] []
  | cons {v : V} {vs : List V} {d : PyData} {ds : List PyData} : Dt K H A v d → DtAll K H A vs ds → DtAll K H A (v :: vs) (d :: ds)
end
theorem DtAll.length {H : Hp} {A : Option Addr} : ∀ {xs : List V} {ds : List PyData}, DtAll K H A xs ds → xs.length = ds.length
  | _, _, .nil => rfl
  | _, _, .cons _ r => by rw [List.length_cons, List.length_cons, r.length]
theorem DtAll.get {H : Hp} {A : Option Addr} : ∀ {xs : List V} {ds : List PyData} {i : Nat} {x : V}, DtAll K H A xs ds → xs[i]? = some x → ∃ d, ds[i]? = some d ∧ Dt K H A x d
  | _, _, _, _, .nil, e => by simp at e
  | _, _, 0, x, .cons h _, e => by simp at e; subst e; exact ⟨_, rfl, h⟩
  | _, _, i + 1, x, .cons _ r, e => by
    obtain ⟨d, h1, h2⟩ := r.get (i := i) (x := x) (by simpa using e)
    exact ⟨d, by simpa using h1, h2⟩
theorem DtAll.getD {H : Hp} {A : Option Addr} {xs : List V} {ds : List PyData} {i : Nat} {d : PyData} (h : DtAll K H A xs ds) (e : ds[i]? = some d) : ∃ x, xs[i]? = some x ∧ Dt K H A x d := by
  have hi : i < ds.length := (List.getElem?_eq_some_iff.mp e).1
  have hi' : i < xs.length := by rw [h.length]; exact hi
  obtain ⟨d', h1, h2⟩ := h.get (List.getElem?_eq_getElem hi')
  rw [e] at h1
  cases h1
  exact ⟨_, List.getElem?_eq_getElem hi', h2⟩
mutual
theorem Dt.mod {H H' : Hp} {A D : Addr} (s : Mod A H H') (dr : Dr H D A) : ∀ (d : PyData) (v : V), Dt K H (some A) v d → Dt K H' (some A) v d
  | .none, _, h => by cases h; exact .non
  | .bool b, _, h => by cases h; exact .bl b
  | .int i, _, h => by cases h; exact .int i
  | .str z, _, h => by cases h with | str _ hz => exact .str z hz
  | .list ds, _, h => by cases h with | lst hn ha hd => exact .lst hn (s _ _ hn ha) (DtAll.mod s dr ds _ hd)
  | .tuple ds, _, h => by
    cases h with
    | tup ha hd =>
      obtain ⟨_, _, _, _, e, _⟩ := id dr
      exact .tup (ha.imp (fun ha => s _ _ (ne_of ha e (by intro z; cases z)) ha) id) (DtAll.mod s dr ds _ hd)
  | .dict _, _, h => by cases h
theorem DtAll.mod {H H' : Hp} {A D : Addr} (s : Mod A H H') (dr : Dr H D A) : ∀ (ds : List PyData) (xs : List V), DtAll K H (some A) xs ds → DtAll K H' (some A) xs ds
  | [], _, h => by cases h; exact .nil
  | d :: ds, _, h => by cases h with | cons h1 h2 => exact .cons (Dt.mod s dr d _ h1) (DtAll.mod s dr ds _ h2)
end
mutual
theorem Dt.same {H H' : Hp} {A : Option Addr} (s : Same H H') : ∀ (d : PyData) (v : V), Dt K H A v d → Dt K H' A v d
  | .none, _, h => by cases h; exact .non
  | .bool b, _, h => by cases h; exact .bl b
  | .int i, _, h => by cases h; exact .int i
  | .str z, _, h => by cases h with | str _ hz => exact .str z hz
  | .list ds, _, h => by cases h with | lst hn ha hd => exact .lst hn (s _ _ ha) (DtAll.same s ds _ hd)
  | .tuple ds, _, h => by cases h with | tup ha hd => exact .tup (ha.same s) (DtAll.same s ds _ hd)
  | .dict _, _, h => by cases h
theorem DtAll.same {H H' : Hp} {A : Option Addr} (s : Same H H') : ∀ (ds : List PyData) (xs : List V), DtAll K H A xs ds → DtAll K H' A xs ds
  | [], _, h => by cases h; exact .nil
  | d :: ds, _, h => by cases h with | cons h1 h2 => exact .cons (Dt.same s d _ h1) (DtAll.same s ds _ h2)
end
mutual
/-- data for a comparison -/
theorem Dt.dp {H : Hp} {A : Option Addr} : ∀ (d : PyData) (v : V), Dt K H A v d → Dp K H v d
  | .none, _, h => by cases h; exact .non
  | .bool b, _, h => by cases h; exact .bl b
  | .int i, _, h => by cases h; exact .int i
  | .str z, _, h => by cases h; exact .str z
  | .list ds, _, h => by cases h with | lst hn ha hd => exact .lst (SqL.of ha) (DtAll.dp ds _ hd)
  | .tuple ds, _, h => by cases h with | tup ha hd => exact .tup ha.sq (DtAll.dp ds _ hd)
  | .dict _, _, h => by cases h
theorem DtAll.dp {H : Hp} {A : Option Addr} : ∀ (ds : List PyData) (xs : List V), DtAll K H A xs ds → DpAll K H xs ds
  | [], _, h => by cases h; exact .nil
  | d :: ds, _, h => by cases h with | cons h1 h2 => exact .cons (Dt.dp d _ h1) (DtAll.dp ds _ h2)
end
theorem Dt.on {H H' : Hp} {A : Option Addr} {v : V} {d : PyData} (h : Dt K H A v d) (s : Same H H') : Dt K H' A v d := Dt.same s d v h
theorem DtAll.on {H H' : Hp} {A : Option Addr} {xs : List V} {ds : List PyData} (h : DtAll K H A xs ds) (s : Same H H') : DtAll K H' A xs ds := DtAll.same s ds xs h
theorem Dt.by {H H' : Hp} {A D : Addr} {v : V} {d : PyData} (h : Dt K H (some A) v d) (s : Mod A H H') (dr : Dr H D A) : Dt K H' (some A) v d := Dt.mod s dr d v h
theorem DtAll.by {H H' : Hp} {A D : Addr} {xs : List V} {ds : List PyData} (h : DtAll K H (some A) xs ds) (s : Mod A H H') (dr : Dr H D A) : DtAll K H' (some A) xs ds := DtAll.mod s dr ds xs h
theorem Dt.two {H : Hp} {A : Option Addr} {v : V} {d : PyData} (h : Dt K H A v d) : (∃ a xs ds, v = .ref a ∧ d = .tuple ds ∧ TupAt K H a xs ∧ DtAll K H A xs ds) ∨ (∃ T, TyX K H v (.type T) ∧ kitB T "tuple" = some false ∧ ∀ ds, d ≠ .tuple ds) := by
  cases h with
  | tup ha hx => exact .inl ⟨_, _, _, rfl, rfl, ha, hx⟩
  | str z hz => exact .inr ⟨_, .base (.str z), by decide +kernel, fun _ z => nomatch z⟩
  | int i => exact .inr ⟨_, .base (.int i), by decide +kernel, fun _ z => nomatch z⟩
  | non => exact .inr ⟨_, .base .non, by decide +kernel, fun _ z => nomatch z⟩
  | bl b => exact .inr ⟨_, .base (.bl b), by decide +kernel, fun _ z => nomatch z⟩
  | lst _ ha _ => exact .inr ⟨_, .base (.lst ha), by decide +kernel, fun _ z => nomatch z⟩
/-- the kind of a value -/
def dTy : PyData → String
  | .none => "NoneType" | .bool _ => "bool" | .int _ => "int" | .str _ => "str" | .list _ => "list" | .tuple _ => "tuple" | .dict _ => "dict"
theorem Dt.ty {H : Hp} {A : Option Addr} {v : V} {d : PyData} (h : Dt K H A v d) : TyX K H v (.type (dTy d)) := by
  cases h with
  | non => exact .base .non
  | bl b => exact .base (.bl b)
  | int i => exact .base (.int i)
  | str z _ => exact .base (.str z)
  | lst _ ha _ => exact .base (.lst ha)
  | tup ha _ => exact ha.ty
/-! the predicates of the program, upon data -/
def dInt (lo hi : Int) : PyData → Bool
  | .int i => decide (lo ≤ i ∧ i ≤ hi)
  | _ => false
def dShort (m : Int) : PyData → Bool
  | .str z => isPr z && decide ((z.length : Int) ≤ m)
  | _ => false
def dCmd : PyData → Bool
  | .tuple [c, n, t] => dInt (-100) (-1) c && dInt 1 1000000000000 n && dShort 240 t
  | _ => false
def dClient : PyData → Int
  | .tuple (.int c :: _) => c
  | _ => 0
def dAfter : Option Int → PyData → Bool
  | some k, d => decide (k < dClient d)
  | none, _ => true
def befV : Option Int → V
  | some k => .int k
  | none => .non
def dCmdsFrom : Option Int → List PyData → Bool
  | _, [] => true
  | b, d :: r => dCmd d && dAfter b d && dCmdsFrom (some (dClient d)) r
theorem dCmdsFrom_cons (b : Option Int) (d : PyData) (r : List PyData) : dCmdsFrom b (d :: r) = (dCmd d && dAfter b d && dCmdsFrom (some (dClient d)) r) := by cases b <;> rfl
theorem dCmdsFrom_nil (b : Option Int) : dCmdsFrom b [] = true := by cases b <;> rfl
def dCmds : PyData → Bool
  | .tuple ds => dCmdsFrom none ds
  | _ => false
def dHeight (parent : Int) (h : PyData) : Bool := if parent = 0 then dInt 1 1 h else dInt 2 (parent + 1) h
def dBlock4 (e p h cs : PyData) : Bool := match e, p with
  | .int e, .int p => dInt 1 1000000000000 (.int e) && dInt 0 (e - 1) (.int p) && dHeight p h && dCmds cs
  | _, _ => false
def dBlock : PyData → Bool
  | .tuple [e, p, h, cs] => dBlock4 e p h cs
  | _ => false
def dEmpty : PyData → Bool
  | .tuple [] => true
  | _ => false
def dGen : PyData → Bool
  | .tuple [e, p, h, cs] => dInt 0 0 e && dInt 0 0 p && dInt 0 0 h && dEmpty cs
  | _ => false
theorem DtAll.four {H : Hp} {A : Option Addr} {xs : List V} {ds : List PyData} (h : DtAll K H A xs ds) (hl : xs.length = 4) :
    ∃ x1 x2 x3 x4 d1 d2 d3 d4, xs = [x1, x2, x3, x4] ∧ ds = [d1, d2, d3, d4] ∧ Dt K H A x1 d1 ∧ Dt K H A x2 d2 ∧ Dt K H A x3 d3 ∧ Dt K H A x4 d4 := by
  match xs, ds, h with
  | [_, _, _, _], _, .cons h1 (.cons h2 (.cons h3 (.cons h4 .nil))) => exact ⟨_, _, _, _, _, _, _, _, rfl, rfl, h1, h2, h3, h4⟩
theorem dBlock4_e1 {e p h cs : PyData} (z : dInt 1 1000000000000 e = false) : dBlock4 e p h cs = false := by
  unfold dBlock4
  split
  · rw [z]; rfl
  · rfl
theorem dBlock4_e2 {e : Int} {p h cs : PyData} (z : dInt 0 (e - 1) p = false) : dBlock4 (.int e) p h cs = false := by
  unfold dBlock4
  split
  · rename_i h1
    cases h1
    rw [z, Bool.and_false]; rfl
  · rfl
/-- a predicate of one value, kept by growing heaps -/
def spPred (K : PySem.W.Frag) (A : Option Addr) (f : PyData → Bool) : Sp := fun vs H Q _ => ∃ (v : V) (d : PyData), vs = [v] ∧ Dt K H A v d ∧ ∀ H', Same H H' → Q (.bl (f d)) H'
def spIntD (K : PySem.W.Frag) (A : Option Addr) : Sp := fun vs H Q _ => ∃ (v : V) (d : PyData) (lo hi : Int), vs = [v, .int lo, .int hi] ∧ Dt K H A v d ∧ Q (.bl (dInt lo hi d)) H
def spShortD (K : PySem.W.Frag) (A : Option Addr) : Sp := fun vs H Q _ => ∃ (v : V) (d : PyData) (m : Int), vs = [v, .int m] ∧ Dt K H A v d ∧ ∀ H', Same H H' → Q (.bl (dShort m d)) H'
theorem dInt_inv {lo hi : Int} {d : PyData} (h : dInt lo hi d = true) : ∃ i, d = .int i ∧ lo ≤ i ∧ i ≤ hi := by
  cases d with
  | int i =>
    have h : decide (lo ≤ i ∧ i ≤ hi) = true := h
    exact ⟨i, rfl, (of_decide_eq_true h).1, (of_decide_eq_true h).2⟩
  | none => cases h
  | bool b => cases h
  | str z => cases h
  | list ds => cases h
  | tuple ds => cases h
  | dict k => cases h
theorem dShort_inv {m : Int} {d : PyData} (h : dShort m d = true) : ∃ z : Str, d = .str z ∧ isPr z = true ∧ (z.length : Int) ≤ m := by
  cases d with
  | str z =>
    have h : (isPr z && decide ((z.length : Int) ≤ m)) = true := h
    obtain ⟨h1, h2⟩ := Bool.and_eq_true_iff.mp h
    exact ⟨z, rfl, h1, of_decide_eq_true h2⟩
  | none => cases h
  | bool b => cases h
  | int i => cases h
  | list ds => cases h
  | tuple ds => cases h
  | dict k => cases h
theorem dCmd_inv {d : PyData} (h : dCmd d = true) : ∃ (c n : Int) (t : Str), d = .tuple [.int c, .int n, .str t] ∧ -100 ≤ c ∧ c ≤ -1 ∧ 1 ≤ n ∧ n ≤ 1000000000000 ∧ isPr t = true ∧ (t.length : Int) ≤ 240 := by
  unfold dCmd at h
  split at h
  · rename_i c n t
    rw [Bool.and_eq_true, Bool.and_eq_true] at h
    obtain ⟨⟨h1, h2⟩, h3⟩ := h
    obtain ⟨c, rfl, c0, c1⟩ := dInt_inv h1
    obtain ⟨n, rfl, n0, n1⟩ := dInt_inv h2
    obtain ⟨t, rfl, t0, t1⟩ := dShort_inv h3
    exact ⟨c, n, t, rfl, c0, c1, n0, n1, t0, t1⟩
  · cases h
/-- what a tuple of three ints, ints, texts stands for -/
theorem Dt.three {H : Hp} {A : Option Addr} {v : V} {d1 d2 d3 : PyData} (h : Dt K H A v (.tuple [d1, d2, d3])) : ∃ a x1 x2 x3, v = .ref a ∧ TupAt K H a [x1, x2, x3] ∧ Dt K H A x1 d1 ∧ Dt K H A x2 d2 ∧ Dt K H A x3 d3 := by
  cases h with
  | tup ha hd =>
    cases hd with
    | cons h1 hd =>
      cases hd with
      | cons h2 hd =>
        cases hd with
        | cons h3 hd =>
          cases hd
          exact ⟨_, _, _, _, rfl, ha, h1, h2, h3⟩
mutual
theorem Dt.any {H : Hp} {A : Option Addr} : ∀ (d : PyData) (v : V), Dt K H A v d → Dt K H none v d
  | .none, _, h => by cases h; exact .non
  | .bool b, _, h => by cases h; exact .bl b
  | .int i, _, h => by cases h; exact .int i
  | .str z, _, h => by cases h with | str _ hz => exact .str z hz
  | .list ds, _, h => by cases h with | lst hn ha hd => exact .lst trivial ha (DtAll.any ds _ hd)
  | .tuple ds, _, h => by cases h with | tup ha hd => exact .tup ha (DtAll.any ds _ hd)
  | .dict _, _, h => by cases h
theorem DtAll.any {H : Hp} {A : Option Addr} : ∀ (ds : List PyData) (xs : List V), DtAll K H A xs ds → DtAll K H none xs ds
  | [], _, h => by cases h; exact .nil
  | d :: ds, _, h => by cases h with | cons h1 h2 => exact .cons (Dt.any d _ h1) (DtAll.any ds _ h2)
end
theorem Dt.an {H : Hp} {A : Option Addr} {v : V} {d : PyData} (h : Dt K H A v d) : Dt K H none v d := Dt.any d v h
/-! data without lists -/
mutual
def noL : PyData → Bool
  | .list _ => false
  | .tuple ds => noLs ds
  | _ => true
def noLs : List PyData → Bool
  | [] => true
  | d :: r => noL d && noLs r
end
/-- tracked tuples stay -/
def Tp (H H' : Hp) : Prop := ∀ a xs, H a = some (.tup xs) → H' a = some (.tup xs)
mutual
theorem Dt.keep {H H' : Hp} {A B : Option Addr} (t : Tp H H') : ∀ (d : PyData) (v : V), noL d = true → Dt K H A v d → Dt K H' B v d
  | .none, _, _, h => by cases h; exact .non
  | .bool b, _, _, h => by cases h; exact .bl b
  | .int i, _, _, h => by cases h; exact .int i
  | .str z, _, _, h => by cases h with | str _ hz => exact .str z hz
  | .list ds, _, n, _ => by cases n
  | .tuple ds, _, n, h => by cases h with | tup ha hd => exact .tup (ha.imp (t _ _) id) (DtAll.keep t ds _ n hd)
  | .dict _, _, _, h => by cases h
theorem DtAll.keep {H H' : Hp} {A B : Option Addr} (t : Tp H H') : ∀ (ds : List PyData) (xs : List V), noLs ds = true → DtAll K H A xs ds → DtAll K H' B xs ds
  | [], _, _, h => by cases h; exact .nil
  | d :: ds, _, n, h => by
    have n : (noL d && noLs ds) = true := n
    rw [Bool.and_eq_true] at n
    cases h with | cons h1 h2 => exact .cons (Dt.keep t d _ n.1 h1) (DtAll.keep t ds _ n.2 h2)
end
theorem DtAll.snoc {H : Hp} {A : Option Addr} : ∀ {xs : List V} {ds : List PyData} {x : V} {d : PyData}, DtAll K H A xs ds → Dt K H A x d → DtAll K H A (xs ++ [x]) (ds ++ [d])
  | _, _, _, _, .nil, h => .cons h .nil
  | _, _, _, _, .cons h r, h2 => .cons h (r.snoc h2)
theorem TupAt.tp {H H' : Hp} {a : Addr} {xs : List V} (h : TupAt K H a xs) (t : Tp H H') : TupAt K H' a xs := h.imp (t _ _) id
theorem Same.tp {H H' : Hp} (s : Same H H') : Tp H H' := fun _ _ h => s _ _ h
theorem Mod.tp {H H' : Hp} {A D : Addr} (s : Mod A H H') (dr : Dr H D A) : Tp H H' := fun a xs h => by
  obtain ⟨_, _, _, _, e, _⟩ := id dr
  exact s _ _ (ne_of h e (by intro z; cases z)) h
theorem tp_put {H : Hp} {l : Addr} {xs ys : List V} (h : H l = some (.lst xs)) : Tp H (upd H l (.lst ys)) := fun a zs e => by
  rw [upd_ne (ne_of e h (by intro z; cases z))]; exact e
theorem dCmd_noL {d : PyData} (h : dCmd d = true) : noL d = true := by
  obtain ⟨c, n, t, rfl, _⟩ := dCmd_inv h
  rfl
theorem dCmdsFrom_noL : ∀ {ds : List PyData} {b : Option Int}, dCmdsFrom b ds = true → noLs ds = true
  | [], _, _ => rfl
  | d :: r, b, h => by
    rw [dCmdsFrom_cons, Bool.and_eq_true, Bool.and_eq_true] at h
    show (noL d && noLs r) = true
    rw [dCmd_noL h.1.1, dCmdsFrom_noL h.2]; rfl
theorem dCmdsFrom_all : ∀ {ds : List PyData} {b : Option Int}, dCmdsFrom b ds = true → ∀ d ∈ ds, dCmd d = true
  | [], _, _, _, m => nomatch m
  | d :: r, b, h, e, m => by
    rw [dCmdsFrom_cons, Bool.and_eq_true, Bool.and_eq_true] at h
    rcases List.mem_cons.mp m with rfl | m
    · exact h.1.1
    · exact dCmdsFrom_all h.2 e m
def lastC : Option Int → List PyData → Option Int
  | b, [] => b
  | _, d :: r => lastC (some (dClient d)) r
theorem lastC_snoc : ∀ (ds : List PyData) (b : Option Int) (d : PyData), lastC b (ds ++ [d]) = some (dClient d)
  | [], _, _ => rfl
  | _ :: r, _, d => lastC_snoc r _ d
theorem dCmdsFrom_snoc : ∀ (ds : List PyData) (b : Option Int) (d : PyData), dCmdsFrom b (ds ++ [d]) = (dCmdsFrom b ds && (dCmd d && dAfter (lastC b ds) d))
  | [], b, d => by
    show dCmdsFrom b [d] = _
    rw [dCmdsFrom_cons, dCmdsFrom_nil, dCmdsFrom_nil, Bool.and_true, Bool.true_and]; rfl
  | e :: r, b, d => by
    show dCmdsFrom b (e :: (r ++ [d])) = _
    rw [dCmdsFrom_cons, dCmdsFrom_snoc r, dCmdsFrom_cons, Bool.and_assoc, Bool.and_assoc, Bool.and_assoc]; rfl
end
theorem noLs_all : ∀ {ds : List PyData}, (∀ d ∈ ds, noL d = true) → noLs ds = true
  | [], _ => rfl
  | d :: r, h => by
    show (noL d && noLs r) = true
    rw [h d List.mem_cons_self, noLs_all (fun e he => h e (List.mem_cons_of_mem _ he))]; rfl

/-! ### slices and sums of tuples, as data -/
def cutD (ds : List PyData) (lo hi : Option Int) : List PyData := (ds.drop (HT.sIx ds.length 0 lo)).take (HT.sIx ds.length ds.length hi - HT.sIx ds.length 0 lo)
theorem DtAll.drop {K : PySem.W.Frag} {H : Hp} {A : Option Addr} : ∀ {xs : List V} {ds : List PyData} (n : Nat), DtAll K H A xs ds → DtAll K H A (xs.drop n) (ds.drop n)
  | _, _, 0, h => h
  | _, _, _ + 1, .nil => .nil
  | _, _, n + 1, .cons _ r => r.drop n
theorem DtAll.take {K : PySem.W.Frag} {H : Hp} {A : Option Addr} : ∀ {xs : List V} {ds : List PyData} (n : Nat), DtAll K H A xs ds → DtAll K H A (xs.take n) (ds.take n)
  | _, _, 0, _ => by rw [List.take_zero, List.take_zero]; exact .nil
  | _, _, _ + 1, .nil => .nil
  | _, _, n + 1, .cons h r => .cons h (r.take n)
theorem DtAll.app {K : PySem.W.Frag} {H : Hp} {A : Option Addr} : ∀ {xs ys : List V} {ds es : List PyData}, DtAll K H A xs ds → DtAll K H A ys es → DtAll K H A (xs ++ ys) (ds ++ es)
  | _, _, _, _, .nil, h => h
  | _, _, _, _, .cons h r, h2 => .cons h (r.app h2)
theorem sl_dt {K : PySem.W.Frag} {A : Option Addr} {H : Hp} {b : Addr} {xs : List V} {ds : List PyData} {lo hi : Option Int} {Q : VK} (ha : TupAt K H b xs) (hx : DtAll K H A xs ds) (q : ∀ H' v, Same H H' → Dt K H' A v (.tuple (cutD ds lo hi)) → Q v H') : rSlA K (.ref b) lo hi H Q := by
  have hl := hx.length
  refine ⟨b, xs, rfl, ha.sq, fun hw => q _ _ (Same.refl H) ?_, fun _ p hp => q _ _ (same_upd hp) (.tup (.inl upd_same) ?_)⟩
  · have e : cutD ds lo hi = ds := by
      unfold cutD
      rw [← hl, hw.1, hw.2, List.drop_zero, Nat.sub_zero, hl, List.take_of_length_le (Nat.le_refl _)]
    rw [e]
    exact .tup ha hx
  · unfold cutV cutD
    rw [← hl]
    exact ((hx.drop _).take _).on (same_upd hp)
theorem cat_dt {K : PySem.W.Frag} {A : Option Addr} {H : Hp} {v u : V} {ds es : List PyData} {Q : VK} (hv : Dt K H A v (.tuple ds)) (hu : Dt K H A u (.tuple es)) (hl : ds.length + es.length ≤ 100000) (q : ∀ H' v', Same H H' → Dt K H' A v' (.tuple (ds ++ es)) → Q v' H') : rCatA K v u H Q := by
  cases hv with
  | tup ha hx =>
    cases hu with
    | tup hb hy =>
      rename_i a xs b ys
      have l1 := hx.length
      have l2 := hy.length
      refine ⟨a, b, xs, ys, rfl, rfl, ha.sq, hb.sq, sz1000 (by omega), fun e => q _ _ (Same.refl H) ?_, fun _ e => q _ _ (Same.refl H) ?_, fun _ _ p hp => q _ _ (same_upd hp) (.tup (.inl upd_same) ((hx.app hy).on (same_upd hp)))⟩
      · rw [e] at l1
        rw [List.length_eq_zero_iff.mp l1.symm]
        exact .tup hb hy
      · rw [e] at l2
        rw [List.length_eq_zero_iff.mp l2.symm, List.append_nil]
        exact .tup ha hx
theorem cutD_take (ds : List PyData) (j : Nat) : cutD ds none (some (j : Int)) = ds.take j := by
  unfold cutD
  rw [HT.sIx_nat, HT.sIx_none, List.drop_zero, Nat.sub_zero]
  rcases Nat.le_total j ds.length with h | h
  · rw [Nat.min_eq_left h]
  · rw [Nat.min_eq_right h, List.take_of_length_le (Nat.le_refl _), List.take_of_length_le h]
theorem cutD_drop (ds : List PyData) (j : Nat) : cutD ds (some (j : Int)) none = ds.drop j := by
  unfold cutD
  rw [HT.sIx_nat, HT.sIx_none]
  rcases Nat.le_total j ds.length with h | h
  · rw [Nat.min_eq_left h, List.take_of_length_le (by rw [List.length_drop]; exact Nat.le_refl _)]
  · rw [Nat.min_eq_right h, Nat.sub_self, List.take_zero, List.drop_of_length_le h]

theorem atI_lt {α : Type} {xs : List α} {i : Int} (h0 : 0 ≤ i) (h1 : i < xs.length) : ∃ v, v ∈ xs ∧ atI xs i = some v := by
  obtain ⟨j, rfl⟩ := Int.eq_ofNat_of_zero_le h0
  have hj : j < xs.length := Int.ofNat_lt.mp h1
  exact ⟨xs[j], List.getElem_mem hj, atI_nat (List.getElem?_eq_getElem hj)⟩

/-! ### data for comparisons: shape and depth -/
def Ly (k : Nat) (d : PyData) : Prop := d.canLay0 = true ∧ d.depth ≤ k
theorem ly_all {k : Nat} : ∀ {ds : List PyData}, (∀ d ∈ ds, Ly k d) → PyData.canLayAll0 ds = true ∧ PyData.depthAll ds ≤ k
  | [], _ => ⟨by simp [PyData.canLayAll0], by simp [PyData.depthAll]⟩
  | d :: r, h => by
    obtain ⟨i1, i2⟩ := ly_all fun z hz => h z (List.mem_cons_of_mem _ hz)
    obtain ⟨l1, l2⟩ := h d List.mem_cons_self
    constructor
    · rw [PyData.canLayAll0, i1, l1]; rfl
    · rw [PyData.depthAll]; omega
theorem ly_tup {k : Nat} {ds : List PyData} (h : ∀ d ∈ ds, Ly k d) : Ly (k + 1) (.tuple ds) := by
  obtain ⟨a, b⟩ := ly_all h
  exact ⟨by rw [PyData.canLay0]; exact a, by rw [PyData.depth]; omega⟩
theorem ly_lst {k : Nat} {ds : List PyData} (h : ∀ d ∈ ds, Ly k d) : Ly (k + 1) (.list ds) := by
  obtain ⟨a, b⟩ := ly_all h
  exact ⟨by rw [PyData.canLay0]; exact a, by rw [PyData.depth]; omega⟩
theorem ly_int {k : Nat} (i : Int) : Ly k (.int i) := ⟨by simp [PyData.canLay0], by simp [PyData.depth]⟩
theorem ly_non {k : Nat} : Ly k .none := ⟨by simp [PyData.canLay0], by simp [PyData.depth]⟩
theorem ly_bl {k : Nat} (b : Bool) : Ly k (.bool b) := ⟨by simp [PyData.canLay0], by simp [PyData.depth]⟩
theorem ly_str {k : Nat} {z : Str} (h : PyData.strOk z = true) : Ly k (.str z) := ⟨by simp [PyData.canLay0, h], by simp [PyData.depth]⟩
theorem Ly.mono {k j : Nat} {d : PyData} (h : Ly k d) (le : k ≤ j) : Ly j d := ⟨h.1, Nat.le_trans h.2 le⟩
theorem ly_nil {k : Nat} : ∀ d ∈ ([] : List PyData), Ly k d := fun _ m => nomatch m
theorem ly_cons {k : Nat} {d : PyData} {r : List PyData} (h : Ly k d) (hr : ∀ d ∈ r, Ly k d) : ∀ e ∈ d :: r, Ly k e := fun e m => by
  rcases List.mem_cons.mp m with rfl | m
  · exact h
  · exact hr e m
theorem ly_app {k : Nat} {r s : List PyData} (hr : ∀ d ∈ r, Ly k d) (hs : ∀ d ∈ s, Ly k d) : ∀ e ∈ r ++ s, Ly k e := fun e m => by
  rcases List.mem_append.mp m with m | m
  · exact hr e m
  · exact hs e m
theorem shpL {d : PyData} (h : Ly 20 d) : SeqAt.shaped d = true ∧ PyData.eqv d d = true := by
  refine ⟨?_, SeqAt.eqv_refl _ h.1⟩
  unfold SeqAt.shaped
  rw [h.1, decide_eq_true (by have := h.2; omega)]; rfl

/-! ### a text times an int -/
theorem op_mul_str {X : Cx} : OpR X (binaryOp .Mult) (fun x y H Q => ∃ a i, x = .str a ∧ y = .int i ∧ PySem.MulOk a i ∧ Q (.str (PySem.Txt.mul a i)) H) := fun pins s σ H x y v u Q I rx ry ⟨a, i, ex, ey, ok, q⟩ => by
  subst ex; subst ey
  obtain ⟨t, rfl⟩ := rx
  obtain ⟨t2, rfl⟩ := ry
  exact PySem.SB.mul ok (fun t' k => ⟨.str (PySem.Txt.mul a i), H, I.turnedL (ch := []) (fun _ _ _ e => e) (fun _ m => nomatch m), ⟨t', rfl⟩, q⟩)
theorem mulOk_a {n : Nat} (h : n ≤ 1000000) : PySem.MulOk (Str.ofString "a") (n : Int) := by
  refine ⟨?_, fun _ _ => ?_, fun _ _ => ?_⟩
  · rw [decide_eq_false (by omega), decide_eq_false (by omega)]; rfl
  · have e : (Str.ofString "a").length = 1 := by decide
    rw [e]
    intro z
    have : (1 : Int) ≤ (2 ^ 63 - 1) / (n : Int) := Int.le_ediv_of_mul_le (by omega) (by omega)
    omega
  · have e : (Str.ofString "a").length = 1 := by decide
    rw [e, Nat.one_mul, Int.toNat_natCast]
    unfold PySem.Builtin.Str.tooLong
    have : n ≤ sizeLine := Nat.le_trans h (by decide)
    exact decide_eq_false (by omega)
theorem mul_a {n : Nat} : (PySem.Txt.mul (Str.ofString "a") (n : Int)).cps = (List.replicate n (97 : Nat)).toArray := by
  unfold PySem.Txt.mul
  split
  · rw [show n = 0 by omega]; rfl
  · split
    · rename_i h
      have : n = 1 := by
        have e : ((Str.ofString "a").length == 0) = false := by decide
        rw [e, Bool.or_false] at h
        have := eq_of_beq h
        omega
      subst this
      decide
    · show List.foldl (fun x1 x2 => x1 ++ x2) #[] (List.replicate (n : Int).toNat (Str.ofString "a").cps) = _
      rw [Int.toNat_natCast, show (Str.ofString "a").cps = #[97] by decide]
      have : ∀ (n : Nat) (acc : Array Nat), List.foldl (fun (x1 x2 : Array Nat) => x1 ++ x2) acc (List.replicate n #[97]) = acc ++ (List.replicate n (97 : Nat)).toArray := by
        intro n
        induction n with
        | zero => intro acc; simp
        | succ n ih =>
          intro acc
          rw [List.replicate_succ, List.foldl_cons, ih, List.replicate_succ]
          apply Array.toList_inj.mp
          simp
      rw [this]
      simp

/-! ### is_short, is_client, is_number, is_command, is_command_list -/
section
variable {P : Program} {w : World} {K : PySem.W.Frag} {mg : Str → Option Value} {base : Heap}
theorem c_is_integerD {C_Group : Addr} {C_BadGroup : Addr} {C_BadLetter : Addr} {C_BadText : Addr} {C_FORMS : Addr} {C_CONSTANTS : Addr} (T : Txt K mg w C_Group C_BadGroup C_BadLetter C_BadText C_FORMS C_CONSTANTS) (A : Option Addr) : Cal P w K mg base 1 "is_integer" (spIntD K A) [] := by
  obtain ⟨f, fd, ps, ds, F, r⟩ := (c_is_integer (P := P) (w := w) (base := base) T).ex
  refine ⟨f, fd, ps, ds, F.imp fun vs H Q E h => ?_, r⟩
  obtain ⟨v, d, lo, hi, rfl, hd, q⟩ := h
  refine ⟨v, lo, hi, rfl, ?_⟩
  cases hd with
  | int i => exact .inl ⟨i, rfl, q⟩
  | non => exact .inr ⟨⟨_, .base .non, .inl (by decide +kernel)⟩, q⟩
  | bl b => exact .inr ⟨⟨_, .base (.bl b), .inr ⟨by decide +kernel, by decide +kernel⟩⟩, q⟩
  | str z _ => exact .inr ⟨⟨_, .base (.str z), .inl (by decide +kernel)⟩, q⟩
  | lst _ ha _ => exact .inr ⟨⟨_, .base (.lst ha), .inl (by decide +kernel)⟩, q⟩
  | tup ha _ => exact .inr ⟨⟨_, ha.ty, .inl (by decide +kernel)⟩, q⟩
theorem c_is_short {C_Group : Addr} {C_BadGroup : Addr} {C_BadLetter : Addr} {C_BadText : Addr} {C_FORMS : Addr} {C_CONSTANTS : Addr} (T : Txt K mg w C_Group C_BadGroup C_BadLetter C_BadText C_FORMS C_CONSTANTS) (A : Option Addr) : Cal P w K mg base 2 "is_short" (spShortD K A) [] := by
  have c_is_printable := c_is_printable (P := P) (w := w) (base := base) T
  refine cal T.d_is_short sc_is_short (fun vs H Q E h => ?_) (fun f cdv A' outer s H vs Q E hr h => ?_)
  · obtain ⟨v, d, m, rfl, _⟩ := h; rfl
  obtain ⟨v, d, m, rfl, hd, q⟩ := h
  refine ⟨_, (pss_one (ps_ret (pe_and (pe_c c_is_printable hr (by omega) (by rfl) (pa_cons (pv 0) pa_nil)) (pe_one (pe_cmpR op_le (pe_callB call_len_str (by rfl) T.z_len (by decide +kernel) (pa_cons (pv 0) pa_nil)) (pv 1) (nomark _)))))), ?_⟩
  have two : (∃ z : Str, d = .str z ∧ v = .str z ∧ z.length ≤ 1000000) ∨ (NoStr K H v ∧ dShort m d = false) := by
    cases hd with
    | str z hz => exact .inl ⟨z, rfl, rfl, hz⟩
    | int i => exact .inr ⟨⟨_, .base (.int i), by decide +kernel⟩, rfl⟩
    | non => exact .inr ⟨⟨_, .base .non, by decide +kernel⟩, rfl⟩
    | bl b => exact .inr ⟨⟨_, .base (.bl b), by decide +kernel⟩, rfl⟩
    | lst _ ha _ => exact .inr ⟨⟨_, .base (.lst ha), by decide +kernel⟩, rfl⟩
    | tup ha _ => exact .inr ⟨⟨_, ha.ty, by decide +kernel⟩, rfl⟩
  rcases two with ⟨z, rfl, rfl, hz⟩ | ⟨hn, e⟩
  · refine ⟨_, rfl, .str z, rfl, .inl ⟨z, rfl, by omega, fun H' sm => ?_⟩⟩
    have q := q H' sm
    cases e : isPr z with
    | false =>
      rw [show dShort m (.str z) = false by show (isPr z && decide ((z.length : Int) ≤ m)) = false; rw [e]; rfl] at q
      refine ⟨_, rfl, ?_⟩
      exact q
    | true =>
      rw [show dShort m (.str z) = decide ((z.length : Int) ≤ m) by show (isPr z && decide ((z.length : Int) ≤ m)) = _; rw [e]; rfl] at q
      refine ⟨_, rfl, ?_⟩
      walk_at "rds"
      exact q
  · refine ⟨_, rfl, v, rfl, .inr ⟨hn, ?_⟩⟩
    rw [e] at q
    refine ⟨_, rfl, ?_⟩
    exact q H (Same.refl H)
theorem c_is_client {C_Group : Addr} {C_BadGroup : Addr} {C_BadLetter : Addr} {C_BadText : Addr} {C_FORMS : Addr} {C_CONSTANTS : Addr} (T : Txt K mg w C_Group C_BadGroup C_BadLetter C_BadText C_FORMS C_CONSTANTS) (A : Option Addr) : Cal P w K mg base 2 "is_client" (spPred K A (dInt (-100) (-1))) [] := by
  have c_is_integer := c_is_integerD (P := P) (w := w) (base := base) T A
  refine cal T.d_is_client sc_is_client (fun vs H Q E h => ?_) (fun f cdv A' outer s H vs Q E hr h => ?_)
  · obtain ⟨v, d, rfl, _⟩ := h; rfl
  obtain ⟨v, d, rfl, hd, q⟩ := h
  refine ⟨_, (pss_one (ps_ret (pe_c c_is_integer hr (by omega) (by rfl) (pa_cons (pv 0) (pa_cons (pe_un un_neg (pe_gc (by rfl) T.c_MOST_CLIENTS)) (pa_cons (pe_un un_neg pe_int) pa_nil)))))), ?_⟩
  walk_at "rds"
  exact ⟨v, d, _, _, rfl, hd, q H (Same.refl H)⟩
theorem c_is_number {C_Group : Addr} {C_BadGroup : Addr} {C_BadLetter : Addr} {C_BadText : Addr} {C_FORMS : Addr} {C_CONSTANTS : Addr} (T : Txt K mg w C_Group C_BadGroup C_BadLetter C_BadText C_FORMS C_CONSTANTS) (A : Option Addr) : Cal P w K mg base 2 "is_number" (spPred K A (dInt 1 1000000000000)) [] := by
  have c_is_integer := c_is_integerD (P := P) (w := w) (base := base) T A
  refine cal T.d_is_number sc_is_number (fun vs H Q E h => ?_) (fun f cdv A' outer s H vs Q E hr h => ?_)
  · obtain ⟨v, d, rfl, _⟩ := h; rfl
  obtain ⟨v, d, rfl, hd, q⟩ := h
  refine ⟨_, (pss_one (ps_ret (pe_c c_is_integer hr (by omega) (by rfl) (pa_cons (pv 0) (pa_cons pe_int (pa_cons (pe_gc (by rfl) T.c_MOST_NUMBER) pa_nil)))))), ?_⟩
  walk_at "rds"
  exact ⟨v, d, _, _, rfl, hd, q H (Same.refl H)⟩
theorem c_is_command {C_Group : Addr} {C_BadGroup : Addr} {C_BadLetter : Addr} {C_BadText : Addr} {C_FORMS : Addr} {C_CONSTANTS : Addr} (T : Txt K mg w C_Group C_BadGroup C_BadLetter C_BadText C_FORMS C_CONSTANTS) (A : Option Addr) : Cal P w K mg base 3 "is_command" (spPred K A dCmd) [] := by
  have c_is_short := c_is_short (P := P) (w := w) (base := base) T A
  have c_is_client := c_is_client (P := P) (w := w) (base := base) T A
  have c_is_number := c_is_number (P := P) (w := w) (base := base) T A
  refine cal T.d_is_command sc_is_command (fun vs H Q E h => ?_) (fun f cdv A' outer s H vs Q E hr h => ?_)
  · obtain ⟨v, d, rfl, _⟩ := h; rfl
  obtain ⟨v, d, rfl, hd, q⟩ := h
  refine ⟨_, (pss_cons (ps_if (PW.pt (pw_or (pt_not (pt_val (pe_callB (kisi (K := K)) (by rfl) T.z_isinstance (by decide +kernel) (pa_cons (pv 0) (pa_cons (pe_bltn (v := .ty "tuple") (by rfl) T.z_tuple (by decide +kernel) rfl) pa_nil))))) (pw_or1 (pt_cmpR op_ne (pe_callB (klen (K := K)) (by rfl) T.z_len (by decide +kernel) (pa_cons (pv 0) pa_nil)) pe_int (nomark _))))) (pss_one (ps_ret pe_bl)) pss_nil)
      (pss_cons (ps_asg (pv 0) (pg_tup (by rfl) (pgs_cons (pg_name (i := 1) sc_is_command.nd rfl (Or.inl rfl)) (pgs_cons (pg_name (i := 2) sc_is_command.nd rfl (Or.inl rfl)) (pgs_cons (pg_name (i := 3) sc_is_command.nd rfl (Or.inl rfl)) pgs_nil)))))
      (pss_one (ps_ret (pe_and (pe_c c_is_client hr (by omega) (by rfl) (pa_cons (pv 1) pa_nil)) (pe_and (pe_c c_is_number hr (by omega) (by rfl) (pa_cons (pv 2) pa_nil)) (pe_one (pe_c c_is_short hr (by omega) (by rfl) (pa_cons (pv 3) (pa_cons (pe_gc (by rfl) T.c_MOST_TEXT) pa_nil)))))))))), ?_⟩
  walk_at "rds"
  have two : (∃ a xs ds, v = .ref a ∧ d = .tuple ds ∧ TupAt K H a xs ∧ DtAll K H A xs ds) ∨ (∃ T, TyX K H v (.type T) ∧ kitB T "tuple" = some false ∧ dCmd d = false) := by
    cases hd with
    | tup ha hx => exact .inl ⟨_, _, _, rfl, rfl, ha, hx⟩
    | str z hz => exact .inr ⟨_, .base (.str z), by decide +kernel, rfl⟩
    | int i => exact .inr ⟨_, .base (.int i), by decide +kernel, rfl⟩
    | non => exact .inr ⟨_, .base .non, by decide +kernel, rfl⟩
    | bl b => exact .inr ⟨_, .base (.bl b), by decide +kernel, rfl⟩
    | lst _ ha _ => exact .inr ⟨_, .base (.lst ha), by decide +kernel, rfl⟩
  rcases two with ⟨a, xs, ds, rfl, rfl, ha, hx⟩ | ⟨T, ty, hk, e⟩
  · refine ⟨_, .ty _, _, _, true, rfl, .ty _, ha.ty, kit_ty (by decide +kernel), ?_⟩
    walk_at "rds"
    refine ⟨a, xs, rfl, .inr (ha.sq), ?_⟩
    walk_at "rds"
    refine ite2 (fun e => ?_) (fun e => ?_)
    · have e2 : dCmd (.tuple ds) = false := by
        have hl := hx.length
        match ds with
        | [] => rfl
        | [_] => rfl
        | [_, _] => rfl
        | [_, _, _] =>
          exfalso
          have e : (!decide (V.int (xs.length : Int) = V.int 3)) = true := e
          rw [hl] at e
          exact absurd e (by show ¬ ((!decide (V.int 3 = V.int 3)) = true); decide)
        | _ :: _ :: _ :: _ :: _ => rfl
      rw [e2] at q
      exact q H (Same.refl H)
    · have hl : xs.length = 3 := by
        by_cases h3 : (xs.length : Int) = 3
        · omega
        · exfalso
          exact e (by show (!decide (V.int _ = V.int _)) = true; rw [decide_eq_false (fun z => h3 (V.int.inj z))]; rfl)
      cases hx with
      | nil => simp at hl
      | cons h1 hx =>
        cases hx with
        | nil => simp at hl
        | cons h2 hx =>
          cases hx with
          | nil => simp at hl
          | cons h3 hx =>
            cases hx with
            | cons _ _ => simp at hl
            | nil =>
              rename_i x1 d1 x2 d2 x3 d3
              walk_at "rds"
              refine ⟨a, _, rfl, ha.sq, rfl, _, _, rfl, _, _, rfl, _, _, rfl, rfl, ?_⟩
              walk_at "rds"
              refine ⟨_, d1, rfl, h1, fun H2 s2 => ?_⟩
              have q : ∀ H', Same H H' → Q (.bl (dInt (-100) (-1) d1 && dInt 1 1000000000000 d2 && dShort 240 d3)) H' := q
              refine ⟨_, rfl, ?_⟩
              cases e1 : dInt (-100) (-1) d1 with
              | false =>
                rw [e1] at q
                refine ifF rfl ?_
                exact q _ s2
              | true =>
                rw [e1] at q
                refine ifT rfl ?_
                walk_at "rds"
                refine ⟨_, d2, rfl, h2.on s2, fun H3 s3 => ?_⟩
                refine ⟨_, rfl, ?_⟩
                cases e2 : dInt 1 1000000000000 d2 with
                | false =>
                  rw [e2] at q
                  refine ifF rfl ?_
                  exact q _ (s2.trans s3)
                | true =>
                  rw [e2] at q
                  refine ifT rfl ?_
                  walk_at "rds"
                  refine ⟨_, d3, 240, rfl, (h3.on s2).on s3, fun H4 s4 => ?_⟩
                  exact q _ ((s2.trans s3).trans s4)
  · refine ⟨_, .ty _, _, _, false, rfl, .ty _, ty, kit_ty hk, ?_⟩
    walk_at "rds"
    rw [e] at q
    exact q H (Same.refl H)
theorem c_is_command_list {C_Group : Addr} {C_BadGroup : Addr} {C_BadLetter : Addr} {C_BadText : Addr} {C_FORMS : Addr} {C_CONSTANTS : Addr} (T : Txt K mg w C_Group C_BadGroup C_BadLetter C_BadText C_FORMS C_CONSTANTS) (A : Option Addr) : Cal P w K mg base 4 "is_command_list" (spPred K A dCmds) [] := by
  have c_is_command := c_is_command (P := P) (w := w) (base := base) T A
  refine cal T.d_is_command_list sc_is_command_list (fun vs H Q E h => ?_) (fun f cdv A' outer s H vs Q E hr h => ?_)
  · obtain ⟨v, d, rfl, _⟩ := h; rfl
  obtain ⟨v, d, rfl, hd, q⟩ := h
  refine ⟨_, (pss_cons (ps_if (pt_not (pt_val (pe_callB (kisi (K := K)) (by rfl) T.z_isinstance (by decide +kernel) (pa_cons (pv 0) (pa_cons (pe_bltn (v := .ty "tuple") (by rfl) T.z_tuple (by decide +kernel) rfl) pa_nil))))) (pss_one (ps_ret pe_bl)) pss_nil)
      (pss_cons (ps_set (i := 1) sc_is_command_list.nd rfl (Or.inl rfl) pe_non)
      (pss_cons (ps_for PassesOwn.never rfl (pi_tup (pv 0)) (pg_name (i := 2) sc_is_command_list.nd rfl (Or.inl rfl)) (pss_cons (ps_if (pt_not (pt_val (pe_c c_is_command hr (by omega) (by rfl) (pa_cons (pv 2) pa_nil)))) (pss_one (ps_ret pe_bl)) pss_nil)
      (pss_cons (ps_if (PW.pt (pw_and (pt_cmpR op_notN (pv 1) pe_non (nomark _)) (pw_and1 (pt_cmpR op_le (pe_ix (kixt (K := K)) (pv 2) pe_int (fun _ _ => rfl)) (pv 1) (nomark _))))) (pss_one (ps_ret pe_bl)) pss_nil)
      (pss_one (ps_set (i := 1) sc_is_command_list.nd rfl (Or.inl rfl) (pe_ix (kixt (K := K)) (pv 2) pe_int (fun _ _ => rfl)))))))
      (pss_one (ps_ret pe_bl))))), ?_⟩
  walk_at "rds"
  have two : (∃ a xs ds, v = .ref a ∧ d = .tuple ds ∧ TupAt K H a xs ∧ DtAll K H A xs ds) ∨ (∃ T, TyX K H v (.type T) ∧ kitB T "tuple" = some false ∧ dCmds d = false) := by
    cases hd with
    | tup ha hx => exact .inl ⟨_, _, _, rfl, rfl, ha, hx⟩
    | str z hz => exact .inr ⟨_, .base (.str z), by decide +kernel, rfl⟩
    | int i => exact .inr ⟨_, .base (.int i), by decide +kernel, rfl⟩
    | non => exact .inr ⟨_, .base .non, by decide +kernel, rfl⟩
    | bl b => exact .inr ⟨_, .base (.bl b), by decide +kernel, rfl⟩
    | lst _ ha _ => exact .inr ⟨_, .base (.lst ha), by decide +kernel, rfl⟩
  rcases two with ⟨a, xs, ds, rfl, rfl, ha, hx⟩ | ⟨T, ty, hk, e⟩
  · refine ⟨_, .ty _, _, _, true, rfl, .ty _, ha.ty, kit_ty (by decide +kernel), ?_⟩
    walk_at "rds"
    refine ⟨⟨xs, ha.sq⟩, ?_⟩
    refine for_it (walk_tup (K := K) (a := a) (xs := xs)) (Pv := fun i σ H' => ∃ (b : Option Int) (y : Option V), σ = [some (.ref a), some (befV b), y] ∧ Same H H' ∧ dCmdsFrom none ds = dCmdsFrom b (ds.drop i)) ⟨none, none, rfl, Same.refl H, rfl⟩ (fun i σ H' _ h => by obtain ⟨_, _, _, sm, _⟩ := h; exact (ha.same sm).sq) (fun i x σ H2 H3 hi hp hy => ?_) (fun σ H2 hp => ?_)
    · obtain ⟨b, y, rfl, sm, eq⟩ := hp
      obtain ⟨rfl, gx⟩ := hy
      obtain ⟨d, gd, hdx⟩ := hx.get gx
      have hid : i < ds.length := (List.getElem?_eq_some_iff.mp gd).1
      have edrop : ds.drop i = d :: ds.drop (i + 1) := by
        rw [List.drop_eq_getElem_cons hid]
        rw [List.getElem?_eq_getElem hid] at gd
        cases gd; rfl
      rw [edrop, dCmdsFrom_cons] at eq
      have q : ∀ H', Same H H' → Q (.bl (dCmdsFrom none ds)) H' := q
      walk_at "rds"
      refine ⟨x, d, rfl, hdx.on sm, fun H4 s4 => ?_⟩
      refine ⟨_, rfl, ?_⟩
      cases ec : dCmd d with
      | false =>
        rw [ec] at eq
        refine ifT rfl ?_
        rw [show dCmdsFrom none ds = false from eq] at q
        exact q _ (sm.trans s4)
      | true =>
        rw [ec] at eq
        refine ifF rfl ?_
        obtain ⟨c, n, t, rfl, c0, c1, n0, n1, t0, t1⟩ := dCmd_inv ec
        obtain ⟨aq, x1, x2, x3, rfl, haq, h1, h2, h3⟩ := (hdx.on (sm.trans s4)).three
        cases h1
        have eq : dCmdsFrom none ds = (dAfter b (.tuple [.int c, .int n, .str t]) && dCmdsFrom (some c) (ds.drop (i + 1))) := eq
        cases b with
        | none =>
          walk_at "rds"
          refine ⟨aq, _, 0, _, rfl, rfl, haq.sq, atI_nat rfl, ?_⟩
          exact ⟨some c, some (.ref aq), rfl, sm.trans s4, by rw [eq]; rfl⟩
        | some k =>
          walk_at "rds"
          refine ⟨aq, _, 0, _, rfl, rfl, haq.sq, atI_nat rfl, ?_⟩
          walk_at "rds"
          have eq : dCmdsFrom none ds = (decide (k < c) && dCmdsFrom (some c) (ds.drop (i + 1))) := eq
          refine ite2 (fun e => ?_) (fun e => ?_)
          · have e : decide (c ≤ k) = true := e
            rw [show dCmdsFrom none ds = false by rw [eq, decide_eq_false (by have := of_decide_eq_true e; omega)]; rfl] at q
            exact q _ (sm.trans s4)
          · have e : ¬ decide (c ≤ k) = true := e
            walk_at "rds"
            refine ⟨aq, _, 0, _, rfl, rfl, haq.sq, atI_nat rfl, ?_⟩
            exact ⟨some c, some (.ref aq), rfl, sm.trans s4, by rw [eq, decide_eq_true (by rcases Int.lt_or_le k c with h | h; exact h; exact absurd (decide_eq_true h) e)]; rfl⟩
    · obtain ⟨b, y, rfl, sm, eq⟩ := hp
      walk_at "rds"
      rw [List.drop_of_length_le (by rw [hx.length]; exact Nat.le_refl _), dCmdsFrom_nil] at eq
      have q : ∀ H', Same H H' → Q (.bl (dCmdsFrom none ds)) H' := q
      rw [show dCmdsFrom none ds = true from eq] at q
      exact q _ sm
  · refine ⟨_, .ty _, _, _, false, rfl, .ty _, ty, kit_ty hk, ?_⟩
    walk_at "rds"
    rw [e] at q
    exact q H (Same.refl H)
end

/-! ### blocks -/
def spHeight (K : PySem.W.Frag) (A : Option Addr) : Sp := fun vs H Q _ => ∃ (p : Int) (v : V) (d : PyData), vs = [.int p, v] ∧ Dt K H A v d ∧ ∀ H', Same H H' → Q (.bl (dHeight p d)) H'
section
variable {P : Program} {w : World} {K : PySem.W.Frag} {mg : Str → Option Value} {base : Heap}
theorem c_is_height_above {C_Group : Addr} {C_BadGroup : Addr} {C_BadLetter : Addr} {C_BadText : Addr} {C_FORMS : Addr} {C_CONSTANTS : Addr} (T : Txt K mg w C_Group C_BadGroup C_BadLetter C_BadText C_FORMS C_CONSTANTS) (A : Option Addr) : Cal P w K mg base 2 "is_height_above" (spHeight K A) [] := by
  have c_is_integer := c_is_integerD (P := P) (w := w) (base := base) T A
  refine cal T.d_is_height_above sc_is_height_above (fun vs H Q E h => ?_) (fun f cdv A' outer s H vs Q E hr h => ?_)
  · obtain ⟨p, v, d, rfl, _⟩ := h; rfl
  obtain ⟨p, v, d, rfl, hd, q⟩ := h
  refine ⟨_, (pss_cons (ps_if (pt_cmpR op_eq (pv 0) pe_int (nomark _)) (pss_one (ps_ret (pe_c c_is_integer hr (by omega) (by rfl) (pa_cons (pv 1) (pa_cons pe_int (pa_cons pe_int pa_nil)))))) pss_nil)
      (pss_one (ps_ret (pe_c c_is_integer hr (by omega) (by rfl) (pa_cons (pv 1) (pa_cons pe_int (pa_cons (pe_op op_add (pv 0) pe_int) pa_nil))))))), ?_⟩
  walk_at "rds"
  refine ite2 (fun e => ?_) (fun e => ?_)
  · have e : p = 0 := V.int.inj (of_decide_eq_true e)
    subst e
    walk_at "rds"
    exact ⟨v, d, _, _, rfl, hd, q H (Same.refl H)⟩
  · have e : p ≠ 0 := fun z => e (by rw [z]; rfl)
    walk_at "rds"
    refine ⟨v, d, _, _, rfl, hd, ?_⟩
    have q := q H (Same.refl H)
    unfold dHeight at q
    rw [if_neg e] at q
    exact q
theorem c_is_block {C_Group : Addr} {C_BadGroup : Addr} {C_BadLetter : Addr} {C_BadText : Addr} {C_FORMS : Addr} {C_CONSTANTS : Addr} (T : Txt K mg w C_Group C_BadGroup C_BadLetter C_BadText C_FORMS C_CONSTANTS) (A : Option Addr) : Cal P w K mg base 5 "is_block" (spPred K A dBlock) [] := by
  have c_is_integer := c_is_integerD (P := P) (w := w) (base := base) T A
  have c_is_height_above := c_is_height_above (P := P) (w := w) (base := base) T A
  have c_is_command_list := c_is_command_list (P := P) (w := w) (base := base) T A
  refine cal T.d_is_block sc_is_block (fun vs H Q E h => ?_) (fun f cdv A' outer s H vs Q E hr h => ?_)
  · obtain ⟨v, d, rfl, _⟩ := h; rfl
  obtain ⟨v, d, rfl, hd, q⟩ := h
  refine ⟨_, (pss_cons (ps_if (PW.pt (pw_or (pt_not (pt_val (pe_callB (kisi (K := K)) (by rfl) T.z_isinstance (by decide +kernel) (pa_cons (pv 0) (pa_cons (pe_bltn (v := .ty "tuple") (by rfl) T.z_tuple (by decide +kernel) rfl) pa_nil))))) (pw_or1 (pt_cmpR op_ne (pe_callB (klen (K := K)) (by rfl) T.z_len (by decide +kernel) (pa_cons (pv 0) pa_nil)) pe_int (nomark _))))) (pss_one (ps_ret pe_bl)) pss_nil)
      (pss_cons (ps_asg (pv 0) (pg_tup (by rfl) (pgs_cons (pg_name (i := 1) sc_is_block.nd rfl (Or.inl rfl)) (pgs_cons (pg_name (i := 2) sc_is_block.nd rfl (Or.inl rfl)) (pgs_cons (pg_name (i := 3) sc_is_block.nd rfl (Or.inl rfl)) (pgs_cons (pg_name (i := 4) sc_is_block.nd rfl (Or.inl rfl)) pgs_nil))))))
      (pss_cons (ps_if (PW.pt (pw_or (pt_not (pt_val (pe_c c_is_integer hr (by omega) (by rfl) (pa_cons (pv 1) (pa_cons pe_int (pa_cons (pe_gc (by rfl) T.c_MOST_NUMBER) pa_nil)))))) (pw_or1 (pt_not (pt_val (pe_c c_is_integer hr (by omega) (by rfl) (pa_cons (pv 2) (pa_cons pe_int (pa_cons (pe_op op_sub (pv 1) pe_int) pa_nil))))))))) (pss_one (ps_ret pe_bl)) pss_nil)
      (pss_one (ps_ret (pe_and (pe_c c_is_height_above hr (by omega) (by rfl) (pa_cons (pv 2) (pa_cons (pv 3) pa_nil))) (pe_one (pe_c c_is_command_list hr (by omega) (by rfl) (pa_cons (pv 4) pa_nil))))))))), ?_⟩
  walk_at "rds"
  have two : (∃ a xs ds, v = .ref a ∧ d = .tuple ds ∧ TupAt K H a xs ∧ DtAll K H A xs ds) ∨ (∃ T, TyX K H v (.type T) ∧ kitB T "tuple" = some false ∧ dBlock d = false) := by
    cases hd with
    | tup ha hx => exact .inl ⟨_, _, _, rfl, rfl, ha, hx⟩
    | str z hz => exact .inr ⟨_, .base (.str z), by decide +kernel, rfl⟩
    | int i => exact .inr ⟨_, .base (.int i), by decide +kernel, rfl⟩
    | non => exact .inr ⟨_, .base .non, by decide +kernel, rfl⟩
    | bl b => exact .inr ⟨_, .base (.bl b), by decide +kernel, rfl⟩
    | lst _ ha _ => exact .inr ⟨_, .base (.lst ha), by decide +kernel, rfl⟩
  rcases two with ⟨a, xs, ds, rfl, rfl, ha, hx⟩ | ⟨T, ty, hk, e⟩
  · refine ⟨_, .ty _, _, _, true, rfl, .ty _, ha.ty, kit_ty (by decide +kernel), ?_⟩
    walk_at "rds"
    refine ⟨a, xs, rfl, .inr (ha.sq), ?_⟩
    walk_at "rds"
    refine ite2 (fun e => ?_) (fun e => ?_)
    · have e2 : dBlock (.tuple ds) = false := by
        have hl := hx.length
        match ds with
        | [] => rfl
        | [_] => rfl
        | [_, _] => rfl
        | [_, _, _] => rfl
        | [_, _, _, _] =>
          exfalso
          have e : (!decide (V.int (xs.length : Int) = V.int 4)) = true := e
          rw [hl] at e
          exact absurd e (by show ¬ ((!decide (V.int 4 = V.int 4)) = true); decide)
        | _ :: _ :: _ :: _ :: _ :: _ => rfl
      rw [e2] at q
      exact q H (Same.refl H)
    · have hl : xs.length = 4 := by
        by_cases h3 : (xs.length : Int) = 4
        · omega
        · exfalso
          exact e (by show (!decide (V.int _ = V.int _)) = true; rw [decide_eq_false (fun z => h3 (V.int.inj z))]; rfl)
      obtain ⟨x1, x2, x3, x4, d1, d2, d3, d4, rfl, rfl, h1, h2, h3, h4⟩ := hx.four hl
      have q : ∀ H', Same H H' → Q (.bl (dBlock4 d1 d2 d3 d4)) H' := q
      walk_at "rds"
      refine ⟨a, _, rfl, ha.sq, rfl, _, _, rfl, _, _, rfl, _, _, rfl, _, _, rfl, rfl, ?_⟩
      walk_at "rds"
      refine ⟨_, d1, _, _, rfl, h1, ?_⟩
      cases e1 : dInt 1 1000000000000 d1 with
      | false =>
        rw [show dBlock4 d1 d2 d3 d4 = false from dBlock4_e1 e1] at q
        refine ⟨_, rfl, ?_⟩
        refine ifT rfl ?_
        exact q _ (Same.refl H)
      | true =>
        obtain ⟨ep, rfl, ep0, ep1⟩ := dInt_inv e1
        cases h1
        refine ⟨_, rfl, ?_⟩
        refine ifF rfl ?_
        walk_at "rds"
        refine ⟨_, d2, _, _, rfl, h2, ?_⟩
        cases e2 : dInt 0 (ep - 1) d2 with
        | false =>
          rw [show dBlock4 (.int ep) d2 d3 d4 = false from dBlock4_e2 e2] at q
          refine ⟨_, rfl, ?_⟩
          refine ifT rfl ?_
          exact q _ (Same.refl H)
        | true =>
          obtain ⟨pa, rfl, pa0, pa1⟩ := dInt_inv e2
          cases h2
          have q : ∀ H', Same H H' → Q (.bl (dHeight pa d3 && dCmds d4)) H' := by
            intro H' sm
            have q := q H' sm
            rw [show dBlock4 (.int ep) (.int pa) d3 d4 = (dHeight pa d3 && dCmds d4) by show (dInt 1 1000000000000 (.int ep) && dInt 0 (ep - 1) (.int pa) && dHeight pa d3 && dCmds d4) = _; rw [e1, e2]; rfl] at q
            exact q
          refine ⟨_, rfl, ?_⟩
          refine ifF rfl ?_
          walk_at "rds"
          refine ⟨pa, _, d3, rfl, h3, fun H2 s2 => ?_⟩
          refine ⟨_, rfl, ?_⟩
          cases e3 : dHeight pa d3 with
          | false =>
            rw [e3] at q
            refine ifF rfl ?_
            exact q _ s2
          | true =>
            rw [e3] at q
            refine ifT rfl ?_
            walk_at "rds"
            refine ⟨_, d4, rfl, h4.on s2, fun H3 s3 => ?_⟩
            exact q _ (s2.trans s3)
  · refine ⟨_, .ty _, _, _, false, rfl, .ty _, ty, kit_ty hk, ?_⟩
    walk_at "rds"
    rw [e] at q
    exact q H (Same.refl H)
theorem dHeight_inv {p : Int} {h : PyData} (z : dHeight p h = true) : ∃ i, h = .int i := by
  unfold dHeight at z
  split at z
  · obtain ⟨i, e, _⟩ := dInt_inv z; exact ⟨i, e⟩
  · obtain ⟨i, e, _⟩ := dInt_inv z; exact ⟨i, e⟩
/-- a block's or genesis' first and third part -/
theorem dBlock_inv {d : PyData} (h : dBlock d = true) : ∃ (e p h : Int) (cs : List PyData), d = .tuple [.int e, .int p, .int h, .tuple cs] := by
  unfold dBlock at h
  split at h
  · unfold dBlock4 at h
    split at h
    · rename_i e p
      rw [Bool.and_eq_true, Bool.and_eq_true, Bool.and_eq_true] at h
      obtain ⟨⟨⟨_, _⟩, h3⟩, h4⟩ := h
      obtain ⟨i, rfl⟩ := dHeight_inv h3
      unfold dCmds at h4
      split at h4
      · exact ⟨_, _, _, _, rfl⟩
      · cases h4
    · cases h
  · cases h
theorem Dt.quad {H : Hp} {A : Option Addr} {v : V} {d1 d2 d3 d4 : PyData} (h : Dt K H A v (.tuple [d1, d2, d3, d4])) : ∃ a x1 x2 x3 x4, v = .ref a ∧ TupAt K H a [x1, x2, x3, x4] ∧ Dt K H A x1 d1 ∧ Dt K H A x2 d2 ∧ Dt K H A x3 d3 ∧ Dt K H A x4 d4 := by
  cases h with
  | tup ha hd =>
    obtain ⟨x1, x2, x3, x4, e1, e2, e3, e4, rfl, e, h1, h2, h3, h4⟩ := hd.four hd.length
    cases e
    exact ⟨_, _, _, _, _, rfl, ha, h1, h2, h3, h4⟩
end

/-! ### the law's commands -/
def spCommand (K : PySem.W.Frag) : Sp := fun vs H Q _ => ∃ (D A : Addr) (c : Int), vs = [.ref D, .ref A, .int c] ∧ Dr H D A ∧ -100 ≤ c ∧ c ≤ -1 ∧
  ∀ (H' : Hp) (x : V) (d : PyData), Mod A H H' → Dr H' D A → Dt K H' A x d → dCmd d = true → dClient d = c → Q x H'
def spCommands (K : PySem.W.Frag) : Sp := fun vs H Q _ => ∃ (D A : Addr) (m : Int), vs = [.ref D, .ref A, .int m] ∧ Dr H D A ∧ 0 ≤ m ∧ m ≤ 50 ∧
  ∀ (H' : Hp) (x : V) (cs : List PyData), Mod A H H' → Dr H' D A → Dt K H' A x (.tuple cs) → dCmdsFrom none cs = true → cs.length ≤ 100 → Q x H'
def spTruth : Sp := fun vs H Q _ => ∃ (a b : Bool), vs = [.bl a, .bl b] ∧ Q (.bl (decide (V.bl a = V.bl b))) H
theorem Mod.put {A l : Addr} {o : HO} {H H' : Hp} (s : Mod A H H') (h : H l = none) : Mod A H (upd H' l o) := fun b u n e => by
  rw [upd_ne (ne_of_none e h)]
  exact s b u n e
section
variable {P : Program} {w : World} {K : PySem.W.Frag} {mg : Str → Option Value} {base : Heap}
theorem c__law_command {C_Group : Addr} {C_BadGroup : Addr} {C_BadLetter : Addr} {C_BadText : Addr} {C_FORMS : Addr} {C_CONSTANTS : Addr} (T : Txt K mg w C_Group C_BadGroup C_BadLetter C_BadText C_FORMS C_CONSTANTS) : Cal P w K mg base 3 "_law_command" (spCommand K) [] := by
  have c__law_next := c__law_next (P := P) (w := w) (base := base) T
  have c__law_big := c__law_big (P := P) (w := w) (base := base) T
  have c__law_string := c__law_string (P := P) (w := w) (base := base) T
  refine cal T.d__law_command sc__law_command (fun vs H Q E h => ?_) (fun f cdv A' outer s H vs Q E hr h => ?_)
  · obtain ⟨D, A, c, rfl, _⟩ := h; rfl
  obtain ⟨D, A, c, rfl, dr, hc0, hc1, q⟩ := h
  refine ⟨_, (pss_cons (ps_set (i := 3) sc__law_command.nd rfl (Or.inl rfl) (pe_op op_add pe_int (pe_c c__law_next hr (by omega) (by rfl) (pa_cons (pv 0) (pa_cons (pv 1) (pa_cons pe_int pa_nil))))))
      (pss_cut (ps_if (pt_cmpR op_eq (pe_c c__law_next hr (by omega) (by rfl) (pa_cons (pv 0) (pa_cons (pv 1) (pa_cons pe_int pa_nil)))) pe_int (nomark _)) (pss_one (ps_set (i := 3) sc__law_command.nd rfl (Or.inl rfl) (pe_op op_add pe_int (pe_c c__law_big hr (by omega) (by rfl) (pa_cons (pv 0) (pa_cons (pv 1) (pa_cons (pe_op op_pow pe_int pe_int) pa_nil))))))) pss_nil)
      (pss_one (ps_ret (pe_tup (pa_cons (pv 2) (pa_cons (pv 3) (pa_cons (pe_c c__law_string hr (by omega) (by rfl) (pa_cons (pv 0) (pa_cons (pv 1) (pa_cons pe_int pa_nil)))) pa_nil)))))))), ?_⟩
  walk_at "rds"
  refine ⟨D, A, 5, rfl, dr, by decide, fun H1 n1 n10 n11 md1 dr1 => ?_⟩
  walk_at "rds"
  refine ⟨fun σ' H' => ∃ n : Int, σ' = [some (.ref D), some (.ref A), some (.int c), some (.int n)] ∧ 1 ≤ n ∧ n ≤ 1000000000000 ∧ Mod A H H' ∧ Dr H' D A, ?_, ?_⟩
  · walk_at "rds"
    refine ⟨D, A, 6, rfl, dr1, by decide, fun H2 s2 s20 s21 md2 dr2 => ?_⟩
    walk_at "rds"
    refine ite2 (fun _ => ?_) (fun _ => ?_)
    · walk_at "rds"
      refine ⟨D, A, 1000000000000, rfl, dr2, by decide, fun H3 s3 s30 s31 md3 dr3 => ?_⟩
      walk_at "rds"
      exact ⟨_, rfl, by omega, by omega, (md1.trans md2).trans md3, dr3⟩
    · exact ⟨_, rfl, by omega, by omega, md1.trans md2, dr2⟩
  rintro σ' H2 ⟨n, rfl, hn0, hn1, md2, dr2⟩
  walk_at "rds"
  refine ⟨D, A, 240, rfl, dr2, by decide, by decide, fun H3 z hz pz md3 dr3 => ?_⟩
  walk_at "rds"
  intro p hp
  have e : dCmd (.tuple [.int c, .int n, .str z]) = true := by
    show (decide (-100 ≤ c ∧ c ≤ -1) && decide (1 ≤ n ∧ n ≤ 1000000000000) && (isPr z && decide ((z.length : Int) ≤ 240))) = true
    rw [decide_eq_true ⟨hc0, hc1⟩, decide_eq_true ⟨hn0, hn1⟩, pz, decide_eq_true hz]; rfl
  exact q _ _ (.tuple [.int c, .int n, .str z]) ((md2.trans md3).new hp) (dr3.new hp) (.tup (.inl upd_same) (.cons (.int _) (.cons (.int _) (.cons (.str _ (by omega)) .nil)))) e rfl
theorem c__law_commands {C_Group : Addr} {C_BadGroup : Addr} {C_BadLetter : Addr} {C_BadText : Addr} {C_FORMS : Addr} {C_CONSTANTS : Addr} (T : Txt K mg w C_Group C_BadGroup C_BadLetter C_BadText C_FORMS C_CONSTANTS) : Cal P w K mg base 4 "_law_commands" (spCommands K) [] := by
  have c__law_next := c__law_next (P := P) (w := w) (base := base) T
  have c__law_command := c__law_command (P := P) (w := w) (base := base) T
  refine cal T.d__law_commands sc__law_commands (fun vs H Q E h => ?_) (fun f cdv A' outer s H vs Q E hr h => ?_)
  · obtain ⟨D, A, m, rfl, _⟩ := h; rfl
  obtain ⟨D, A, m, rfl, dr, hm0, hm1, q⟩ := h
  refine ⟨_, (pss_cons (ps_set (i := 3) sc__law_commands.nd rfl (Or.inl rfl) (pe_lst pa_nil))
      (pss_cons (ps_set (i := 4) sc__law_commands.nd rfl (Or.inl rfl) (pe_op op_add (pe_un un_neg pe_int) (pe_c c__law_next hr (by omega) (by rfl) (pa_cons (pv 0) (pa_cons (pv 1) (pa_cons pe_int pa_nil))))))
      (pss_cons (ps_for PassesOwn.never rfl (pi_range1 (by rfl) T.z_range (pa_cons (pe_c c__law_next hr (by omega) (by rfl) (pa_cons (pv 0) (pa_cons (pv 1) (pa_cons (pe_op op_add (pv 2) pe_int) pa_nil)))) pa_nil)) (pg_name (i := 5) sc__law_commands.nd rfl (Or.inl rfl)) (pss_cons (ps_if (pt_cmpR op_lt (pv 4) pe_int (nomark _)) (pss_one (ps_expr (pe_bm PySem.F.plainAttrs_list PySem.F.slot_list_append PySem.F.type_list_append mt_append (pv 3) (pa_cons (pe_c c__law_command hr (by omega) (by rfl) (pa_cons (pv 0) (pa_cons (pv 1) (pa_cons (pv 4) pa_nil)))) pa_nil)))) pss_nil)
      (pss_one (ps_set (i := 4) sc__law_commands.nd rfl (Or.inl rfl) (pe_op op_add (pe_op op_add (pv 4) pe_int) (pe_c c__law_next hr (by omega) (by rfl) (pa_cons (pv 0) (pa_cons (pv 1) (pa_cons pe_int pa_nil)))))))))
      (pss_one (ps_ret (pe_callTy call_tuple_of (by rfl) T.z_tuple (by decide +kernel) (pa_cons (pv 3) pa_nil))))))), ?_⟩
  refine ⟨by decide, fun l hl => ?_⟩
  have lA := dr.freshA hl
  have lD := dr.freshD hl
  walk_at "rds"
  refine ⟨D, A, 100, rfl, dr.new hl, by decide, fun H1 c1 c10 c11 md1 dr1 => ?_⟩
  walk_at "rds"
  refine ⟨D, A, _, rfl, dr1, by omega, fun H2 n n0 n1 md2 dr2 => ?_⟩
  obtain ⟨n, rfl⟩ := Int.eq_ofNat_of_zero_le n0
  walk_at "rds"
  refine for_it walk_range (Pv := fun i σ H' => ∃ (xs : List V) (ds : List PyData) (c : Int) (y : Option V), σ = [some (.ref D), some (.ref A), some (.int m), some (.ref l), some (.int c), y] ∧ H' l = some (.lst xs) ∧ DtAll K H' A xs ds ∧ dCmdsFrom none ds = true ∧ (∀ k, lastC none ds = some k → k < c) ∧ -100 ≤ c ∧ ds.length ≤ i ∧ Mod A H H' ∧ Dr H' D A)
    ⟨[], [], _, none, rfl, md2 _ _ lA (md1 _ _ lA upd_same), .nil, rfl, (fun _ z => nomatch z), by omega, by simp, ((Mod.refl.put hl).trans md1).trans md2, dr2⟩ (fun _ _ _ _ _ => trivial) (fun i x σ H3 H4 hi hp hy => ?_) (fun σ H3 hp => ?_)
  · obtain ⟨xs, ds, c, y, rfl, hl3, hx, hc, hk, hc0, hlen, md, dr⟩ := hp
    obtain ⟨rfl, rfl⟩ := hy
    have hi' : i < n := by omega
    walk_at "rds"
    refine ite2 (fun e => ?_) (fun e => ?_)
    · have e : c < 0 := of_decide_eq_true e
      walk_at "rds"
      refine ⟨.inl ⟨rfl, _, sq hl3⟩, ?_⟩
      walk_at "rds"
      refine ⟨D, A, c, rfl, dr, hc0, by omega, fun H5 x d md5 dr5 hd e1 e2 => ?_⟩
      have hl5 := md5 _ _ lA hl3
      refine ⟨l, xs, _, rfl, rfl, hl5, by rw [hx.length]; exact sz1000' (by omega), ?_⟩
      walk_at "rds"
      refine ⟨D, A, 20, rfl, dr5.put lD lA, by decide, fun H6 r r0 r1 md6 dr6 => ?_⟩
      walk_at "rds"
      have t5 := md5.tp dr
      have tp := tp_put (ys := xs ++ [x]) hl5
      have t6 := md6.tp (dr5.put (o := .lst (xs ++ [x])) lD lA)
      have all : dCmdsFrom none (ds ++ [d]) = true := by
        rw [dCmdsFrom_snoc, hc, e1]
        cases ek : lastC none ds with
        | none => rfl
        | some k => exact decide_eq_true (by rw [e2]; exact hk k ek)
      have hx1 := DtAll.keep (B := some A) t5 _ _ (dCmdsFrom_noL hc) hx
      have hx2 := DtAll.keep (B := some A) tp _ _ (dCmdsFrom_noL all) (hx1.snoc hd)
      refine ⟨xs ++ [x], ds ++ [d], _, _, rfl, md6 _ _ lA upd_same, DtAll.keep (B := some A) t6 _ _ (dCmdsFrom_noL all) hx2, all, fun k z => ?_, by omega, by rw [List.length_append, List.length_singleton]; omega, ((md.trans md5).put hl).trans md6, dr6⟩
      rw [lastC_snoc] at z
      cases z
      rw [e2]; omega
    · have e : ¬ c < 0 := fun z => e (decide_eq_true z)
      walk_at "rds"
      refine ⟨D, A, 20, rfl, dr, by decide, fun H6 r r0 r1 md6 dr6 => ?_⟩
      walk_at "rds"
      refine ⟨xs, ds, _, _, rfl, md6 _ _ lA hl3, DtAll.keep (B := some A) (md6.tp dr) _ _ (dCmdsFrom_noL hc) hx, hc, fun k z => ?_, by omega, by omega, md.trans md6, dr6⟩
      have := hk k z
      omega
  · obtain ⟨xs, ds, c, y, rfl, hl3, hx, hc, hk, hc0, hlen, md, dr⟩ := hp
    walk_at "rds"
    refine ⟨l, xs, rfl, .inl ⟨sq hl3, fun t ht => ?_⟩⟩
    exact q _ _ ds (md.new ht) (dr.new ht) (.tup (.inl upd_same) (hx.on (same_upd ht))) hc (by omega)
end

/-! ### the law's blocks -/
def spBlock (K : PySem.W.Frag) : Sp := fun vs H Q _ => ∃ (D A : Addr) (m : Int), vs = [.ref D, .ref A, .int m] ∧ Dr H D A ∧ 0 ≤ m ∧ m ≤ 50 ∧
  ∀ (H' : Hp) (x : V) (e p h : Int) (cs : List PyData), Mod A H H' → Dr H' D A → Dt K H' A x (.tuple [.int e, .int p, .int h, .tuple cs]) → dBlock (.tuple [.int e, .int p, .int h, .tuple cs]) = true → cs.length ≤ 100 → Q x H'
section
variable {P : Program} {w : World} {K : PySem.W.Frag} {mg : Str → Option Value} {base : Heap}
theorem c__law_block {C_Group : Addr} {C_BadGroup : Addr} {C_BadLetter : Addr} {C_BadText : Addr} {C_FORMS : Addr} {C_CONSTANTS : Addr} (T : Txt K mg w C_Group C_BadGroup C_BadLetter C_BadText C_FORMS C_CONSTANTS) : Cal P w K mg base 5 "_law_block" (spBlock K) [] := by
  have c__law_next := c__law_next (P := P) (w := w) (base := base) T
  have c__law_big := c__law_big (P := P) (w := w) (base := base) T
  have c__law_commands := c__law_commands (P := P) (w := w) (base := base) T
  refine cal T.d__law_block sc__law_block (fun vs H Q E h => ?_) (fun f cdv A' outer s H vs Q E hr h => ?_)
  · obtain ⟨D, A, m, rfl, _⟩ := h; rfl
  obtain ⟨D, A, m, rfl, dr, hm0, hm1, q⟩ := h
  refine ⟨_, (pss_cons (ps_set (i := 3) sc__law_block.nd rfl (Or.inl rfl) (pe_c c__law_next hr (by omega) (by rfl) (pa_cons (pv 0) (pa_cons (pv 1) (pa_cons pe_int pa_nil)))))
      (pss_cut (ps_if (pt_cmpR op_eq (pe_c c__law_next hr (by omega) (by rfl) (pa_cons (pv 0) (pa_cons (pv 1) (pa_cons pe_int pa_nil)))) pe_int (nomark _)) (pss_one (ps_set (i := 3) sc__law_block.nd rfl (Or.inl rfl) (pe_c c__law_big hr (by omega) (by rfl) (pa_cons (pv 0) (pa_cons (pv 1) (pa_cons (pe_op op_pow pe_int pe_int) pa_nil)))))) pss_nil)
      (pss_cons (ps_set (i := 4) sc__law_block.nd rfl (Or.inl rfl) (pe_op op_add (pe_op op_add (pv 3) pe_int) (pe_c c__law_next hr (by omega) (by rfl) (pa_cons (pv 0) (pa_cons (pv 1) (pa_cons pe_int pa_nil))))))
      (pss_cut (ps_if (pt_cmpR op_gt (pv 4) (pe_op op_pow pe_int pe_int) (nomark _)) (pss_cons (ps_set (i := 4) sc__law_block.nd rfl (Or.inl rfl) (pe_op op_pow pe_int pe_int))
      (pss_one (ps_set (i := 3) sc__law_block.nd rfl (Or.inl rfl) (pe_op op_sub (pe_op op_pow pe_int pe_int) pe_int)))) pss_nil)
      (pss_cons (ps_set (i := 5) sc__law_block.nd rfl (Or.inl rfl) pe_int)
      (pss_cut (ps_if (pt_cmpR op_gt (pv 3) pe_int (nomark _)) (pss_cons (ps_set (i := 5) sc__law_block.nd rfl (Or.inl rfl) (pe_op op_add pe_int (pe_c c__law_next hr (by omega) (by rfl) (pa_cons (pv 0) (pa_cons (pv 1) (pa_cons (pe_callB (call_min2 rfl) (by rfl) T.z_min (by decide +kernel) (pa_cons (pv 3) (pa_cons pe_int pa_nil))) pa_nil))))))
      (pss_one (ps_if (pt_cmpR op_eq (pe_c c__law_next hr (by omega) (by rfl) (pa_cons (pv 0) (pa_cons (pv 1) (pa_cons pe_int pa_nil)))) pe_int (nomark _)) (pss_one (ps_set (i := 5) sc__law_block.nd rfl (Or.inl rfl) (pe_op op_add (pv 3) pe_int))) pss_nil))) pss_nil)
      (pss_one (ps_ret (pe_tup (pa_cons (pv 4) (pa_cons (pv 3) (pa_cons (pv 5) (pa_cons (pe_c c__law_commands hr (by omega) (by rfl) (pa_cons (pv 0) (pa_cons (pv 1) (pa_cons (pv 2) pa_nil)))) pa_nil))))))))))))), ?_⟩
  walk_at "rds"
  refine ⟨D, A, 4, rfl, dr, by decide, fun H1 p1 p10 p11 md1 dr1 => ?_⟩
  walk_at "rds"
  refine ⟨fun σ' H' => ∃ p : Int, σ' = [some (.ref D), some (.ref A), some (.int m), some (.int p), none, none] ∧ 0 ≤ p ∧ p < 1000000000000 ∧ Mod A H H' ∧ Dr H' D A, ?_, ?_⟩
  · walk_at "rds"
    refine ⟨D, A, 6, rfl, dr1, by decide, fun H2 s2 s20 s21 md2 dr2 => ?_⟩
    walk_at "rds"
    refine ite2 (fun _ => ?_) (fun _ => ?_)
    · walk_at "rds"
      refine ⟨D, A, 1000000000000, rfl, dr2, by decide, fun H3 s3 s30 s31 md3 dr3 => ?_⟩
      exact ⟨_, rfl, by omega, by omega, (md1.trans md2).trans md3, dr3⟩
    · exact ⟨_, rfl, by omega, by omega, md1.trans md2, dr2⟩
  rintro σ' H2 ⟨p, rfl, hp0, hp1, md2, dr2⟩
  walk_at "rds"
  refine ⟨D, A, 9, rfl, dr2, by decide, fun H3 e3 e30 e31 md3 dr3 => ?_⟩
  walk_at "rds"
  refine ⟨fun σ' H' => ∃ p e : Int, σ' = [some (.ref D), some (.ref A), some (.int m), some (.int p), some (.int e), none] ∧ 0 ≤ p ∧ p < e ∧ e ≤ 1000000000000 ∧ Mod A H H' ∧ Dr H' D A, ?_, ?_⟩
  · walk_at "rds"
    refine ite2 (fun z => ?_) (fun z => ?_)
    · walk_at "rds"
      exact ⟨999999999999, 1000000000000, rfl, by omega, by omega, by omega, md2.trans md3, dr3⟩
    · have z : ¬ (p + 1 + e3 > (10 : Int) ^ (12 : Int).toNat) := fun y => z (decide_eq_true y)
      have e12 : (10 : Int) ^ (12 : Int).toNat = 1000000000000 := rfl
      exact ⟨p, _, rfl, hp0, by omega, by omega, md2.trans md3, dr3⟩
  rintro σ' H4 ⟨p, e, rfl, hp0, hp1, he, md4, dr4⟩
  walk_at "rds"
  refine ⟨fun σ' H' => ∃ h : Int, σ' = [some (.ref D), some (.ref A), some (.int m), some (.int p), some (.int e), some (.int h)] ∧ dHeight p (.int h) = true ∧ Mod A H H' ∧ Dr H' D A, ?_, ?_⟩
  · walk_at "rds"
    refine ite2 (fun z => ?_) (fun z => ?_)
    · have z : p > 0 := of_decide_eq_true z
      walk_at "rds"
      refine ⟨_, _, rfl, ?_⟩
      have hmin : 1 ≤ (if (999 : Int) < p then 999 else p) ∧ (if (999 : Int) < p then 999 else p) ≤ p := by split <;> omega
      generalize (if (999 : Int) < p then 999 else p) = mn at hmin
      refine ⟨D, A, mn, rfl, dr4, by omega, fun H5 h1 h10 h11 md5 dr5 => ?_⟩
      walk_at "rds"
      refine ⟨D, A, 5, rfl, dr5, by decide, fun H6 h2 h20 h21 md6 dr6 => ?_⟩
      walk_at "rds"
      have hp : ¬ p = 0 := by omega
      refine ite2 (fun _ => ?_) (fun _ => ?_)
      · walk_at "rds"
        exact ⟨_, rfl, by unfold dHeight; rw [if_neg hp]; exact decide_eq_true (by omega), (md4.trans md5).trans md6, dr6⟩
      · exact ⟨_, rfl, by unfold dHeight; rw [if_neg hp]; exact decide_eq_true (by omega), (md4.trans md5).trans md6, dr6⟩
    · have z : ¬ p > 0 := fun y => z (decide_eq_true y)
      exact ⟨1, rfl, by rw [show p = 0 by omega]; rfl, md4, dr4⟩
  rintro σ' H5 ⟨h, rfl, hh, md5, dr5⟩
  walk_at "rds"
  refine ⟨D, A, m, rfl, dr5, hm0, hm1, fun H6 x cs md6 dr6 hx hc hlen => ?_⟩
  walk_at "rds"
  intro t ht
  refine q _ _ e p h cs ((md5.trans md6).new ht) (dr6.new ht) (.tup (.inl upd_same) (.cons (.int _) (.cons (.int _) (.cons (.int _) (.cons (hx.on (same_upd ht)) .nil))))) ?_ hlen
  show (dInt 1 1000000000000 (.int e) && dInt 0 (e - 1) (.int p) && dHeight p (.int h) && dCmdsFrom none cs) = true
  rw [hh, hc, show dInt 1 1000000000000 (.int e) = true from decide_eq_true (by omega), show dInt 0 (e - 1) (.int p) = true from decide_eq_true (by omega)]
  rfl
end
theorem inV_int (a : Int) (ys : List Int) : inV (.int a) (ys.map V.int) = decide (a ∈ ys) := by
  unfold inV
  rw [List.any_map]
  induction ys with
  | nil => rfl
  | cons y r ih =>
    rw [List.any_cons, ih]
    by_cases h : y = a
    · subst h
      simp [eqV]
    · have h' : ¬ a = y := fun e => h e.symm
      simp [eqV, h, h']
theorem flat_ints (ys : List Int) : (ys.map V.int).all flatV = true := by
  rw [List.all_map, List.all_eq_true]
  intro x _
  rfl

theorem strOk_pr {z : Str} (h : isPr z = true) : PyData.strOk z = true := by
  unfold PyData.strOk
  rw [← Array.all_toList, List.all_eq_true]
  intro c hc
  have := List.all_eq_true.mp h c hc
  unfold prC at this
  rw [Bool.and_eq_true, Bool.and_eq_true] at this
  have := of_decide_eq_true this.1.2
  exact decide_eq_true (by omega)
theorem lay_cmd {d : PyData} (h : dCmd d = true) : d.canLay0 = true ∧ d.depth = 1 := by
  obtain ⟨c, n, t, rfl, _, _, _, _, p, _⟩ := dCmd_inv h
  constructor
  · simp [PyData.canLay0, PyData.canLayAll0, strOk_pr p]
  · simp [PyData.depth, PyData.depthAll]
theorem shaped_cmd {d : PyData} (h : dCmd d = true) : SeqAt.shaped d = true := by
  unfold SeqAt.shaped
  rw [(lay_cmd h).1, (lay_cmd h).2]; rfl
theorem lay_cmds : ∀ {ds : List PyData} {b : Option Int}, dCmdsFrom b ds = true → PyData.canLayAll0 ds = true ∧ PyData.depthAll ds ≤ 1
  | [], _, _ => ⟨by simp [PyData.canLayAll0], by simp [PyData.depthAll]⟩
  | d :: r, b, h => by
    rw [dCmdsFrom_cons, Bool.and_eq_true, Bool.and_eq_true] at h
    obtain ⟨i1, i2⟩ := lay_cmds h.2
    obtain ⟨j1, j2⟩ := lay_cmd h.1.1
    constructor
    · rw [PyData.canLayAll0, i1, j1]; rfl
    · rw [PyData.depthAll, j2]; omega
theorem shaped_block {e p h : Int} {cs : List PyData} (hc : dCmdsFrom none cs = true) : SeqAt.shaped (.tuple [.int e, .int p, .int h, .tuple cs]) = true ∧ (PyData.tuple [.int e, .int p, .int h, .tuple cs]).canLay0 = true := by
  obtain ⟨i1, i2⟩ := lay_cmds hc
  have l : (PyData.tuple [.int e, .int p, .int h, .tuple cs]).canLay0 = true := by simp [PyData.canLay0, PyData.canLayAll0, i1]
  refine ⟨?_, l⟩
  unfold SeqAt.shaped
  rw [l]
  simp [PyData.depth, PyData.depthAll]
  omega
theorem asc_all : ∀ {ds : List PyData} {k : Int}, dCmdsFrom (some k) ds = true → ∀ d ∈ ds, k < dClient d
  | [], _, _, _, m => nomatch m
  | d :: r, k, h, e, m => by
    rw [dCmdsFrom_cons, Bool.and_eq_true, Bool.and_eq_true] at h
    have hk : k < dClient d := of_decide_eq_true h.1.2
    rcases List.mem_cons.mp m with rfl | m
    · exact hk
    · have := asc_all h.2 e m
      omega
theorem client_int {d : PyData} (h : dCmd d = true) {K : PySem.W.Frag} {H : Hp} {A : Option Addr} {x : V} (hx : Dt K H A x d) : ∃ a x2 x3, x = .ref a ∧ TupAt K H a [.int (dClient d), x2, x3] := by
  obtain ⟨c, n, t, rfl, _⟩ := dCmd_inv h
  obtain ⟨a, x1, x2, x3, rfl, ha, h1, h2, h3⟩ := hx.three
  cases h1
  exact ⟨a, x2, x3, rfl, ha⟩

/-! ### the group -/
def gF (n : Int) : List (Str × V) := putF "blocking" (.int (n + 1)) (putF "quorum" (.int (2 * n + 1)) (putF "machines" (.int (3 * n + 1)) (putF "faults" (.int n) [])))
theorem gF_f (n : Int) : (gF n).lookup ("faults" : Str) = some (V.int n) := by rfl
theorem gF_m (n : Int) : (gF n).lookup ("machines" : Str) = some (V.int (3 * n + 1)) := by rfl
theorem gF_q (n : Int) : (gF n).lookup ("quorum" : Str) = some (V.int (2 * n + 1)) := by rfl
theorem gF_b (n : Int) : (gF n).lookup ("blocking" : Str) = some (V.int (n + 1)) := by rfl
/-- a Group stands at p -/
def GrAt (C : Addr) (H : Hp) (p : Addr) (n : Int) : Prop := ∃ dx, H p = some (.ins C dx (gF n))
/-- v is no int from 0 to m -/
def Bad (K : PySem.W.Frag) (H : Hp) (m : Int) (v : V) : Prop := NoInt K H v ∨ ∃ i, v = .int i ∧ ¬ (0 ≤ i ∧ i ≤ m)
def spGInit (K : PySem.W.Frag) (C B : Addr) : Sp := fun vs H Q E => ∃ (p dx : Addr) (v : V), vs = [.ref p, v] ∧ H p = some (.ins C dx []) ∧
  ((∃ n, v = .int n ∧ 0 ≤ n ∧ n ≤ 10 ∧ ∀ (H' : Hp), (∀ b o, H b = some o → b ≠ p → H' b = some o) → GrAt C H' p n → Q .non H') ∨ (Bad K H 10 v ∧ E (.ref B) none H))
section
variable {P : Program} {w : World} {K : PySem.W.Frag} {mg : Str → Option Value} {base : Heap}
theorem k_Group {C_Group : Addr} {C_BadGroup : Addr} {C_BadLetter : Addr} {C_BadText : Addr} {C_FORMS : Addr} {C_CONSTANTS : Addr} (T : Txt K mg w C_Group C_BadGroup C_BadLetter C_BadText C_FORMS C_CONSTANTS) : MakX P w K mg base 2 "Group" C_Group (spGInit K C_Group C_BadGroup) := by
  have c_is_integer := c_is_integer (P := P) (w := w) (base := base) T
  refine makX T.g_Group T.mk_Group sc_Group____init__ (fun vs H Q E h => ?_) (fun f cdv A outer s H vs Q E hr h => ?_)
  · obtain ⟨p, dx, v, rfl, _⟩ := h; rfl
  obtain ⟨p, dx, v, rfl, hp, h⟩ := h
  refine ⟨_, (pss_cons (ps_if (pt_not (pt_val (pe_c c_is_integer hr (by omega) (by rfl) (pa_cons (pv 1) (pa_cons pe_int (pa_cons (pe_gc (by rfl) T.c_MOST_FAULTS) pa_nil)))))) (pss_one (ps_raise rfl (takes_of rfl rfl rfl rfl) (pmk_ok T.x_BadGroup (by rfl)))) pss_nil)
      (pss_cons (ps_fld (pv 0) (pv 1) rfl)
      (pss_cons (ps_fld (pv 0) (pe_op op_add (pe_op op_mul pe_int (pv 1)) pe_int) rfl)
      (pss_cons (ps_fld (pv 0) (pe_op op_add (pe_op op_mul pe_int (pv 1)) pe_int) rfl)
      (pss_one (ps_fld (pv 0) (pe_op op_add (pv 1) pe_int) rfl)))))), ?_⟩
  walk_at "rds"
  rcases h with ⟨n, rfl, h0, h1, q⟩ | ⟨hb, q⟩
  · refine ⟨.int n, 0, 10, rfl, .inl ⟨n, rfl, ?_⟩⟩
    refine ⟨_, rfl, ?_⟩
    refine ifF (by simp [h0, h1]) ?_
    walk_at "rds"
    refine ⟨p, _, dx, _, rfl, hp, T.cl_Group, T.na_Group_faults, by decide, ?_⟩
    walk_at "rds"
    refine ⟨p, _, dx, _, rfl, upd_same, T.cl_Group, T.na_Group_machines, (by show 1 < 1000; decide), ?_⟩
    walk_at "rds"
    refine ⟨p, _, dx, _, rfl, upd_same, T.cl_Group, T.na_Group_quorum, (by show 2 < 1000; decide), ?_⟩
    walk_at "rds"
    refine ⟨p, _, dx, _, rfl, upd_same, T.cl_Group, T.na_Group_blocking, (by show 3 < 1000; decide), ?_⟩
    exact q _ (fun b o e hb => by rw [upd_ne hb, upd_ne hb, upd_ne hb, upd_ne hb]; exact e) ⟨dx, upd_same⟩
  · rcases hb with hb | ⟨i, rfl, hb⟩
    · refine ⟨v, 0, 10, rfl, .inr ⟨hb, ?_⟩⟩
      refine ⟨_, rfl, ?_⟩
      refine ifT rfl ?_
      exact q
    · refine ⟨.int i, 0, 10, rfl, .inl ⟨i, rfl, ?_⟩⟩
      refine ⟨_, rfl, ?_⟩
      refine ifT (by rw [decide_eq_false hb]; rfl) ?_
      exact q
end

def spIsMember (K : PySem.W.Frag) (C : Addr) : Sp := fun vs H Q _ => ∃ (p : Addr) (n : Int) (v : V), vs = [.ref p, v] ∧ GrAt C H p n ∧ ((∃ i, v = .int i ∧ Q (.bl (decide (0 ≤ i ∧ i ≤ 3 * n + 1 - 1))) H) ∨ (NoInt K H v ∧ Q (.bl false) H))
section
variable {P : Program} {w : World} {K : PySem.W.Frag} {mg : Str → Option Value} {base : Heap}
theorem m_Group__is_member {C_Group : Addr} {C_BadGroup : Addr} {C_BadLetter : Addr} {C_BadText : Addr} {C_FORMS : Addr} {C_CONSTANTS : Addr} (T : Txt K mg w C_Group C_BadGroup C_BadLetter C_BadText C_FORMS C_CONSTANTS) : Met P w K mg base 2 C_Group "is_member" (spIsMember K C_Group) [] := by
  have c_is_integer := c_is_integer (P := P) (w := w) (base := base) T
  refine met T.cl_Group T.me_Group__is_member sc_Group__is_member (fun vs H Q E h => ?_) (fun f cdv A outer s H vs Q E hr h => ?_)
  · obtain ⟨p, n, v, rfl, _⟩ := h; rfl
  obtain ⟨p, n, v, rfl, ⟨dx, g⟩, h⟩ := h
  refine ⟨_, (pss_one (ps_ret (pe_c c_is_integer hr (by omega) (by rfl) (pa_cons (pv 1) (pa_cons pe_int (pa_cons (pe_op op_sub (pe_fld (pv 0) rfl) pe_int) pa_nil)))))), ?_⟩
  walk_at "rds"
  refine ⟨p, _, dx, _, _, rfl, g, T.cl_Group, T.na_Group_machines, gF_m n, ?_⟩
  walk_at "rds"
  exact ⟨v, 0, _, rfl, h⟩
end

/-! ### calling a def that a slot holds -/
section
variable {X : Cx}
theorem pe_cvW {i j : Nat} {x : Str} {e : Expr} {es : List Expr} {t : TA} {p pos : Pos} (hr : Room j X.A) (hN : X.N[i]? = some x) (hv : Vis X.env.scope x) (ha : PA X (e :: es) t)
    (hd : (x == ("__debug__" : Str)) = false := by decide) (hcd : (x == ("__classdict__" : Str)) = false := by decide)
    (hse : starEach (e :: es) X.env = (false, eval e X.env) :: starEach es X.env := by rfl) (hpl : (backTo pos (starEach es X.env)).any (·.1) = false := by rfl) :
    PE X (.Call (.Name x p) (e :: es) [] pos) (fun σ H Q => ∃ (f : Addr) (sp : Sp) (k : Nat), k ≤ j ∧ σ[i]? = some (some (.ref f)) ∧ C8.CalAt X.prog X.w X.K X.mg X.base k f sp ∧ t σ H fun vs H1 => sp vs H1 Q L2.E0) := by
  refine ⟨fun pins s σ H Q I h => ?_⟩
  obtain ⟨f, sp, k, hk, hs, c, ht⟩ := h
  obtain ⟨fd, ps, F, kp, b⟩ := c.ex
  refine wpAny_Call_Name_kw (thn ((pe_var (pos := p) hN hv hd hcd).run pins s σ H (fun v G => v = .ref f ∧ G = H) I ⟨.ref f, hs, rfl, rfl⟩) fun u s1 ⟨v, G, I1, r1, q1⟩ => ?_)
  obtain ⟨rfl, rfl⟩ := q1
  cases r1
  refine PySem.W.callWith_K (h₀ := X.base) I.ok.mod.kin kp (thn (ha.run pos pins s1 σ _ _ I1 ht) fun us s2 ⟨vs, G2, I2, r, q⟩ => ⟨I2.kIn, ?_⟩) hse hpl
  exact run_fn F (hr.mono hk) b .nil pass0 I2 r (by rw [List.append_nil]; exact q)
end
/-! ### letters, as data -/
def dHtF : PyData → Int
  | .tuple [_, _, .int h, _] => h
  | _ => 0
def fVouch : List PyData → Bool
  | [c] => dCmd c
  | _ => false
def fBlock : List PyData → Bool
  | [b] => dBlock b
  | _ => false
def fClaim : List PyData → Bool
  | [n] => dInt 0 1000000000000 n
  | _ => false
def fGive : List PyData → Bool
  | [h, b] => dBlock b && dInt (dHtF b) (dHtF b) h
  | _ => false
def fText (m : Int) : List PyData → Bool
  | [n, t] => dInt 1 1000000000000 n && dShort m t
  | _ => false
/-- the eight kinds -/
inductive Tag | vouch | propose | vote | ready | claim | give | command | answer
def Tag.s : Tag → Str
  | .vouch => "vouch" | .propose => "propose" | .vote => "vote" | .ready => "ready" | .claim => "claim" | .give => "give" | .command => "command" | .answer => "answer"
def Tag.f : Tag → List PyData → Bool
  | .vouch => fVouch | .propose => fBlock | .vote => fBlock | .ready => fBlock | .claim => fClaim | .give => fGive | .command => fText 240 | .answer => fText 200
/-- what a letter is, by its kind -/
inductive LetIs : PyData → Bool → Prop
  | tag (g : Tag) (r : List PyData) : LetIs (.tuple (.str g.s :: r)) (g.f r)
  | none (r : List PyData) : LetIs (.tuple (.str "" :: r)) false
  | empty : LetIs (.tuple []) false
  | int (i : Int) (r : List PyData) : LetIs (.tuple (.int i :: r)) false
  | lst (r : List PyData) : LetIs (.list r) false
  | num (i : Int) : LetIs (.int i) false
def spParts (K : PySem.W.Frag) (A : Option Addr) (f : List PyData → Bool) : Sp := fun vs H Q _ => ∃ (v : V) (ps : List PyData), vs = [v] ∧ Dt K H A v (.tuple ps) ∧ ∀ H', Same H H' → Q (.bl (f ps)) H'
theorem decVi (i j : Int) : decide (V.int i = V.int j) = decide (i = j) := decide_eq_decide.mpr ⟨V.int.inj, fun z => by rw [z]⟩
/-- the length of such a tuple is not k -/
theorem len_ne {i j : Int} (h : i ≠ j) : decide (V.int i = V.int j) = false := decide_eq_false fun z => h (V.int.inj z)
theorem DtAll.one1 {K : PySem.W.Frag} {H : Hp} {A : Option Addr} {xs : List V} {ds : List PyData} (h : DtAll K H A xs ds) (e : (ds.length : Int) = 1) : ∃ c x, ds = [c] ∧ xs = [x] ∧ Dt K H A x c := by
  cases h with
  | nil => simp at e
  | cons h1 r => cases r with
    | nil => exact ⟨_, _, rfl, rfl, h1⟩
    | cons _ _ => simp only [List.length_cons] at e; omega
theorem DtAll.two2 {K : PySem.W.Frag} {H : Hp} {A : Option Addr} {xs : List V} {ds : List PyData} (h : DtAll K H A xs ds) (e : (ds.length : Int) = 2) : ∃ c d x y, ds = [c, d] ∧ xs = [x, y] ∧ Dt K H A x c ∧ Dt K H A y d := by
  cases h with
  | nil => simp at e
  | cons h1 r => cases r with
    | nil => simp at e
    | cons h2 r => cases r with
      | nil => exact ⟨_, _, _, _, rfl, rfl, h1, h2⟩
      | cons _ _ => simp only [List.length_cons] at e; omega
section
variable {P : Program} {w : World} {K : PySem.W.Frag} {mg : Str → Option Value} {base : Heap}
theorem c_holds_vouch {C_Group : Addr} {C_BadGroup : Addr} {C_BadLetter : Addr} {C_BadText : Addr} {C_FORMS : Addr} {C_CONSTANTS : Addr} (T : Txt K mg w C_Group C_BadGroup C_BadLetter C_BadText C_FORMS C_CONSTANTS) (A : Option Addr) : Cal P w K mg base 4 "holds_vouch" (spParts K A fVouch) [] := by
  have c_is_command := c_is_command (P := P) (w := w) (base := base) T A
  refine cal T.d_holds_vouch sc_holds_vouch (fun vs H Q E h => ?_) (fun f cdv A' outer s H vs Q E hr h => ?_)
  · obtain ⟨v, ps, rfl, _⟩ := h; rfl
  obtain ⟨v, ps, rfl, hv, q⟩ := h
  refine ⟨_, (pss_one (ps_ret (pe_and (pe_cmpR op_eq (pe_callB (klen (K := K)) (by rfl) T.z_len (by decide +kernel) (pa_cons (pv 0) pa_nil)) pe_int (nomark _)) (pe_one (pe_c c_is_command hr (by omega) (by rfl) (pa_cons (pe_ix (kixt (K := K)) (pv 0) pe_int (fun _ _ => rfl)) pa_nil)))))), ?_⟩
  cases hv with
  | tup ha hx =>
    rename_i a xs
    have hl := hx.length
    walk_at "rds"
    refine ⟨a, _, rfl, .inr ha.sq, ?_⟩
    walk_at "rds"
    rw [hl]
    have no : (ps.length : Int) ≠ 1 → fVouch ps = false := fun e => by
      match ps with
      | [] => rfl
      | [_] => exact absurd rfl e
      | _ :: _ :: _ => rfl
    by_cases e2 : (ps.length : Int) = 1
    case neg =>
      have e3 := len_ne e2
      have q0 := q H (Same.refl _)
      rw [no e2] at q0
      rw [e3]
      exact q0
    rw [show decide (V.int (ps.length : Int) = V.int 1) = true from decide_eq_true (congrArg V.int e2)]
    obtain ⟨c, x, rfl, rfl, hc⟩ := hx.one1 e2
    refine ifT rfl ?_
    walk_at "rds"
    refine ⟨a, _, 0, _, rfl, rfl, ha.sq, atI_nat (j := 0) rfl, ?_⟩
    exact ⟨_, c, rfl, hc, q⟩
theorem c_holds_block {C_Group : Addr} {C_BadGroup : Addr} {C_BadLetter : Addr} {C_BadText : Addr} {C_FORMS : Addr} {C_CONSTANTS : Addr} (T : Txt K mg w C_Group C_BadGroup C_BadLetter C_BadText C_FORMS C_CONSTANTS) (A : Option Addr) : Cal P w K mg base 6 "holds_block" (spParts K A fBlock) [] := by
  have c_is_block := c_is_block (P := P) (w := w) (base := base) T A
  refine cal T.d_holds_block sc_holds_block (fun vs H Q E h => ?_) (fun f cdv A' outer s H vs Q E hr h => ?_)
  · obtain ⟨v, ps, rfl, _⟩ := h; rfl
  obtain ⟨v, ps, rfl, hv, q⟩ := h
  refine ⟨_, (pss_one (ps_ret (pe_and (pe_cmpR op_eq (pe_callB (klen (K := K)) (by rfl) T.z_len (by decide +kernel) (pa_cons (pv 0) pa_nil)) pe_int (nomark _)) (pe_one (pe_c c_is_block hr (by omega) (by rfl) (pa_cons (pe_ix (kixt (K := K)) (pv 0) pe_int (fun _ _ => rfl)) pa_nil)))))), ?_⟩
  cases hv with
  | tup ha hx =>
    rename_i a xs
    have hl := hx.length
    walk_at "rds"
    refine ⟨a, _, rfl, .inr ha.sq, ?_⟩
    walk_at "rds"
    rw [hl]
    have no : (ps.length : Int) ≠ 1 → fBlock ps = false := fun e => by
      match ps with
      | [] => rfl
      | [_] => exact absurd rfl e
      | _ :: _ :: _ => rfl
    by_cases e2 : (ps.length : Int) = 1
    case neg =>
      have e3 := len_ne e2
      have q0 := q H (Same.refl _)
      rw [no e2] at q0
      rw [e3]
      exact q0
    rw [show decide (V.int (ps.length : Int) = V.int 1) = true from decide_eq_true (congrArg V.int e2)]
    obtain ⟨c, x, rfl, rfl, hc⟩ := hx.one1 e2
    refine ifT rfl ?_
    walk_at "rds"
    refine ⟨a, _, 0, _, rfl, rfl, ha.sq, atI_nat (j := 0) rfl, ?_⟩
    exact ⟨_, c, rfl, hc, q⟩
theorem c_holds_claim {C_Group : Addr} {C_BadGroup : Addr} {C_BadLetter : Addr} {C_BadText : Addr} {C_FORMS : Addr} {C_CONSTANTS : Addr} (T : Txt K mg w C_Group C_BadGroup C_BadLetter C_BadText C_FORMS C_CONSTANTS) (A : Option Addr) : Cal P w K mg base 2 "holds_claim" (spParts K A fClaim) [] := by
  have c_is_integer := c_is_integerD (P := P) (w := w) (base := base) T A
  refine cal T.d_holds_claim sc_holds_claim (fun vs H Q E h => ?_) (fun f cdv A' outer s H vs Q E hr h => ?_)
  · obtain ⟨v, ps, rfl, _⟩ := h; rfl
  obtain ⟨v, ps, rfl, hv, q⟩ := h
  refine ⟨_, (pss_one (ps_ret (pe_and (pe_cmpR op_eq (pe_callB (klen (K := K)) (by rfl) T.z_len (by decide +kernel) (pa_cons (pv 0) pa_nil)) pe_int (nomark _)) (pe_one (pe_c c_is_integer hr (by omega) (by rfl) (pa_cons (pe_ix (kixt (K := K)) (pv 0) pe_int (fun _ _ => rfl)) (pa_cons pe_int (pa_cons (pe_gc (by rfl) T.c_MOST_NUMBER) pa_nil)))))))), ?_⟩
  cases hv with
  | tup ha hx =>
    rename_i a xs
    have hl := hx.length
    walk_at "rds"
    refine ⟨a, _, rfl, .inr ha.sq, ?_⟩
    walk_at "rds"
    rw [hl]
    have no : (ps.length : Int) ≠ 1 → fClaim ps = false := fun e => by
      match ps with
      | [] => rfl
      | [_] => exact absurd rfl e
      | _ :: _ :: _ => rfl
    by_cases e2 : (ps.length : Int) = 1
    case neg =>
      have e3 := len_ne e2
      have q0 := q H (Same.refl _)
      rw [no e2] at q0
      rw [e3]
      exact q0
    rw [show decide (V.int (ps.length : Int) = V.int 1) = true from decide_eq_true (congrArg V.int e2)]
    obtain ⟨c, x, rfl, rfl, hc⟩ := hx.one1 e2
    refine ifT rfl ?_
    walk_at "rds"
    refine ⟨a, _, 0, _, rfl, rfl, ha.sq, atI_nat (j := 0) rfl, ?_⟩
    walk_at "rds"
    exact ⟨_, c, _, _, rfl, hc, q H (Same.refl _)⟩
theorem c_holds_give {C_Group : Addr} {C_BadGroup : Addr} {C_BadLetter : Addr} {C_BadText : Addr} {C_FORMS : Addr} {C_CONSTANTS : Addr} (T : Txt K mg w C_Group C_BadGroup C_BadLetter C_BadText C_FORMS C_CONSTANTS) (A : Option Addr) : Cal P w K mg base 6 "holds_give" (spParts K A fGive) [] := by
  have c_is_block := c_is_block (P := P) (w := w) (base := base) T A
  have c_is_integer := c_is_integerD (P := P) (w := w) (base := base) T A
  refine cal T.d_holds_give sc_holds_give (fun vs H Q E h => ?_) (fun f cdv A' outer s H vs Q E hr h => ?_)
  · obtain ⟨v, ps, rfl, _⟩ := h; rfl
  obtain ⟨v, ps, rfl, hv, q⟩ := h
  refine ⟨_, (pss_cons (ps_if (PW.pt (pw_or (pt_cmpR op_ne (pe_callB (klen (K := K)) (by rfl) T.z_len (by decide +kernel) (pa_cons (pv 0) pa_nil)) pe_int (nomark _)) (pw_or1 (pt_not (pt_val (pe_c c_is_block hr (by omega) (by rfl) (pa_cons (pe_ix (kixt (K := K)) (pv 0) pe_int (fun _ _ => rfl)) pa_nil))))))) (pss_one (ps_ret pe_bl)) pss_nil)
      (pss_cons (ps_set (i := 1) sc_holds_give.nd rfl (Or.inl rfl) (pe_ix (kixt (K := K)) (pe_ix (kixt (K := K)) (pv 0) pe_int (fun _ _ => rfl)) pe_int (fun _ _ => rfl)))
      (pss_one (ps_ret (pe_c c_is_integer hr (by omega) (by rfl) (pa_cons (pe_ix (kixt (K := K)) (pv 0) pe_int (fun _ _ => rfl)) (pa_cons (pv 1) (pa_cons (pv 1) pa_nil)))))))), ?_⟩
  cases hv with
  | tup ha hx =>
    rename_i a xs
    have hl := hx.length
    walk_at "rds"
    refine ⟨a, _, rfl, .inr ha.sq, ?_⟩
    walk_at "rds"
    rw [hl]
    have no : (ps.length : Int) ≠ 2 → fGive ps = false := fun e => by
      match ps with
      | [] => rfl
      | [_] => rfl
      | [_, _] => exact absurd rfl e
      | _ :: _ :: _ :: _ => rfl
    by_cases e2 : (ps.length : Int) = 2
    case neg =>
      have e3 := len_ne e2
      have q0 := q H (Same.refl _)
      rw [no e2] at q0
      rw [e3]
      refine ifT rfl ?_
      refine ifT rfl ?_
      exact q0
    rw [show decide (V.int (ps.length : Int) = V.int 2) = true from decide_eq_true (congrArg V.int e2)]
    obtain ⟨h, b, x, y, rfl, rfl, hh, hb⟩ := hx.two2 e2
    refine ifF rfl ?_
    walk_at "rds"
    refine ⟨a, _, 1, _, rfl, rfl, ha.sq, atI_nat (j := 1) rfl, ?_⟩
    refine ⟨_, b, rfl, hb, fun H2 s2 => ?_⟩
    have ef : fGive [h, b] = (dBlock b && dInt (dHtF b) (dHtF b) h) := rfl
    rw [ef] at q
    refine ⟨_, rfl, ?_⟩
    cases e1 : dBlock b with
    | false =>
      rw [e1] at q
      refine ifT rfl ?_
      exact q _ s2
    | true =>
      rw [e1] at q
      refine ifF rfl ?_
      obtain ⟨be, bp, bh, cs, rfl⟩ := dBlock_inv e1
      obtain ⟨b0, y1, y2, y3, y4, rfl, hb0, _, _, h3, _⟩ := hb.quad
      cases h3
      walk_at "rds"
      refine ⟨a, _, 1, _, rfl, rfl, (ha.same s2).sq, atI_nat (j := 1) rfl, ?_⟩
      walk_at "rds"
      refine ⟨b0, _, 2, _, rfl, rfl, (hb0.same s2).sq, atI_nat (j := 2) rfl, ?_⟩
      walk_at "rds"
      refine ⟨a, _, 0, _, rfl, rfl, (ha.same s2).sq, atI_nat (j := 0) rfl, ?_⟩
      walk_at "rds"
      exact ⟨_, h, _, _, rfl, hh.on s2, q _ s2⟩
theorem c_holds_request {C_Group : Addr} {C_BadGroup : Addr} {C_BadLetter : Addr} {C_BadText : Addr} {C_FORMS : Addr} {C_CONSTANTS : Addr} (T : Txt K mg w C_Group C_BadGroup C_BadLetter C_BadText C_FORMS C_CONSTANTS) (A : Option Addr) : Cal P w K mg base 3 "holds_request" (spParts K A (fText 240)) [] := by
  have c_is_number := c_is_number (P := P) (w := w) (base := base) T A
  have c_is_short := c_is_short (P := P) (w := w) (base := base) T A
  refine cal T.d_holds_request sc_holds_request (fun vs H Q E h => ?_) (fun f cdv A' outer s H vs Q E hr h => ?_)
  · obtain ⟨v, ps, rfl, _⟩ := h; rfl
  obtain ⟨v, ps, rfl, hv, q⟩ := h
  refine ⟨_, (pss_one (ps_ret (pe_and (pe_cmpR op_eq (pe_callB (klen (K := K)) (by rfl) T.z_len (by decide +kernel) (pa_cons (pv 0) pa_nil)) pe_int (nomark _)) (pe_and (pe_c c_is_number hr (by omega) (by rfl) (pa_cons (pe_ix (kixt (K := K)) (pv 0) pe_int (fun _ _ => rfl)) pa_nil)) (pe_one (pe_c c_is_short hr (by omega) (by rfl) (pa_cons (pe_ix (kixt (K := K)) (pv 0) pe_int (fun _ _ => rfl)) (pa_cons (pe_gc (by rfl) T.c_MOST_TEXT) pa_nil)))))))), ?_⟩
  cases hv with
  | tup ha hx =>
    rename_i a xs
    have hl := hx.length
    walk_at "rds"
    refine ⟨a, _, rfl, .inr ha.sq, ?_⟩
    walk_at "rds"
    rw [hl]
    have no : (ps.length : Int) ≠ 2 → fText 240 ps = false := fun e => by
      match ps with
      | [] => rfl
      | [_] => rfl
      | [_, _] => exact absurd rfl e
      | _ :: _ :: _ :: _ => rfl
    by_cases e2 : (ps.length : Int) = 2
    case neg =>
      have e3 := len_ne e2
      have q0 := q H (Same.refl _)
      rw [no e2] at q0
      rw [e3]
      exact q0
    rw [show decide (V.int (ps.length : Int) = V.int 2) = true from decide_eq_true (congrArg V.int e2)]
    obtain ⟨n, t, x, y, rfl, rfl, hn, ht⟩ := hx.two2 e2
    refine ifT rfl ?_
    walk_at "rds"
    refine ⟨a, _, 0, _, rfl, rfl, ha.sq, atI_nat (j := 0) rfl, ?_⟩
    refine ⟨_, n, rfl, hn, fun H2 s2 => ?_⟩
    have ef : fText 240 [n, t] = (dInt 1 1000000000000 n && dShort 240 t) := rfl
    rw [ef] at q
    refine ⟨_, rfl, ?_⟩
    cases e1 : dInt 1 1000000000000 n with
    | false =>
      rw [e1] at q
      refine ifF rfl ?_
      exact q _ s2
    | true =>
      rw [e1] at q
      refine ifT rfl ?_
      walk_at "rds"
      refine ⟨a, _, 1, _, rfl, rfl, (ha.same s2).sq, atI_nat (j := 1) rfl, ?_⟩
      walk_at "rds"
      exact ⟨_, t, _, rfl, ht.on s2, fun H3 s3 => q _ (s2.trans s3)⟩
theorem c_holds_answer {C_Group : Addr} {C_BadGroup : Addr} {C_BadLetter : Addr} {C_BadText : Addr} {C_FORMS : Addr} {C_CONSTANTS : Addr} (T : Txt K mg w C_Group C_BadGroup C_BadLetter C_BadText C_FORMS C_CONSTANTS) (A : Option Addr) : Cal P w K mg base 3 "holds_answer" (spParts K A (fText 200)) [] := by
  have c_is_number := c_is_number (P := P) (w := w) (base := base) T A
  have c_is_short := c_is_short (P := P) (w := w) (base := base) T A
  refine cal T.d_holds_answer sc_holds_answer (fun vs H Q E h => ?_) (fun f cdv A' outer s H vs Q E hr h => ?_)
  · obtain ⟨v, ps, rfl, _⟩ := h; rfl
  obtain ⟨v, ps, rfl, hv, q⟩ := h
  refine ⟨_, (pss_one (ps_ret (pe_and (pe_cmpR op_eq (pe_callB (klen (K := K)) (by rfl) T.z_len (by decide +kernel) (pa_cons (pv 0) pa_nil)) pe_int (nomark _)) (pe_and (pe_c c_is_number hr (by omega) (by rfl) (pa_cons (pe_ix (kixt (K := K)) (pv 0) pe_int (fun _ _ => rfl)) pa_nil)) (pe_one (pe_c c_is_short hr (by omega) (by rfl) (pa_cons (pe_ix (kixt (K := K)) (pv 0) pe_int (fun _ _ => rfl)) (pa_cons (pe_gc (by rfl) T.c_MOST_ANSWER) pa_nil)))))))), ?_⟩
  cases hv with
  | tup ha hx =>
    rename_i a xs
    have hl := hx.length
    walk_at "rds"
    refine ⟨a, _, rfl, .inr ha.sq, ?_⟩
    walk_at "rds"
    rw [hl]
    have no : (ps.length : Int) ≠ 2 → fText 200 ps = false := fun e => by
      match ps with
      | [] => rfl
      | [_] => rfl
      | [_, _] => exact absurd rfl e
      | _ :: _ :: _ :: _ => rfl
    by_cases e2 : (ps.length : Int) = 2
    case neg =>
      have e3 := len_ne e2
      have q0 := q H (Same.refl _)
      rw [no e2] at q0
      rw [e3]
      exact q0
    rw [show decide (V.int (ps.length : Int) = V.int 2) = true from decide_eq_true (congrArg V.int e2)]
    obtain ⟨n, t, x, y, rfl, rfl, hn, ht⟩ := hx.two2 e2
    refine ifT rfl ?_
    walk_at "rds"
    refine ⟨a, _, 0, _, rfl, rfl, ha.sq, atI_nat (j := 0) rfl, ?_⟩
    refine ⟨_, n, rfl, hn, fun H2 s2 => ?_⟩
    have ef : fText 200 [n, t] = (dInt 1 1000000000000 n && dShort 200 t) := rfl
    rw [ef] at q
    refine ⟨_, rfl, ?_⟩
    cases e1 : dInt 1 1000000000000 n with
    | false =>
      rw [e1] at q
      refine ifF rfl ?_
      exact q _ s2
    | true =>
      rw [e1] at q
      refine ifT rfl ?_
      walk_at "rds"
      refine ⟨a, _, 1, _, rfl, rfl, (ha.same s2).sq, atI_nat (j := 1) rfl, ?_⟩
      walk_at "rds"
      exact ⟨_, t, _, rfl, ht.on s2, fun H3 s3 => q _ (s2.trans s3)⟩
theorem cal_at {k : Nat} {x : Str} {sp : Sp} {f : Addr} (c : Cal P w K mg base k x sp []) (h : mg x = some (.ref f)) : C8.CalAt P w K mg base k f sp := by
  obtain ⟨f', fd, ps, ds, F, hm, kp, b, d⟩ := c.ex
  rw [h] at hm
  cases hm
  cases d
  exact ⟨fd, ps, F, kp, b⟩
/-- the def of a kind -/
theorem tag_fn {C_Group : Addr} {C_BadGroup : Addr} {C_BadLetter : Addr} {C_BadText : Addr} {C_FORMS : Addr} {C_CONSTANTS : Addr} (T : Txt K mg w C_Group C_BadGroup C_BadLetter C_BadText C_FORMS C_CONSTANTS) (A : Option Addr) (g : Tag) : ∃ (f : Addr) (k : Nat), k ≤ 6 ∧ C8.CalAt P w K mg base k f (spParts K A g.f) ∧ KDct K w C_FORMS g.s (.ref f) := by
  cases g
  · obtain ⟨f, m, d⟩ := T.kf_FORMS_vouch
    exact ⟨f, 4, by decide, cal_at (c_holds_vouch T A) m, d⟩
  · obtain ⟨f, m, d⟩ := T.kf_FORMS_propose
    exact ⟨f, 6, by decide, cal_at (c_holds_block T A) m, d⟩
  · obtain ⟨f, m, d⟩ := T.kf_FORMS_vote
    exact ⟨f, 6, by decide, cal_at (c_holds_block T A) m, d⟩
  · obtain ⟨f, m, d⟩ := T.kf_FORMS_ready
    exact ⟨f, 6, by decide, cal_at (c_holds_block T A) m, d⟩
  · obtain ⟨f, m, d⟩ := T.kf_FORMS_claim
    exact ⟨f, 2, by decide, cal_at (c_holds_claim T A) m, d⟩
  · obtain ⟨f, m, d⟩ := T.kf_FORMS_give
    exact ⟨f, 6, by decide, cal_at (c_holds_give T A) m, d⟩
  · obtain ⟨f, m, d⟩ := T.kf_FORMS_command
    exact ⟨f, 3, by decide, cal_at (c_holds_request T A) m, d⟩
  · obtain ⟨f, m, d⟩ := T.kf_FORMS_answer
    exact ⟨f, 3, by decide, cal_at (c_holds_answer T A) m, d⟩
def spLet (K : PySem.W.Frag) (A : Option Addr) : Sp := fun vs H Q _ => ∃ (v : V) (d : PyData) (b : Bool), vs = [v] ∧ Dt K H A v d ∧ LetIs d b ∧ ∀ H', Same H H' → Q (.bl b) H'
theorem c_is_letter {C_Group : Addr} {C_BadGroup : Addr} {C_BadLetter : Addr} {C_BadText : Addr} {C_FORMS : Addr} {C_CONSTANTS : Addr} (T : Txt K mg w C_Group C_BadGroup C_BadLetter C_BadText C_FORMS C_CONSTANTS) (A : Option Addr) : Cal P w K mg base 7 "is_letter" (spLet K A) [] := by
  have tf := tag_fn (P := P) (w := w) (base := base) T A
  refine cal T.d_is_letter sc_is_letter (fun vs H Q E h => ?_) (fun f cdv A' outer s H vs Q E hr h => ?_)
  · obtain ⟨v, d, b, rfl, _⟩ := h; rfl
  obtain ⟨v, d, b, rfl, hv, li, q⟩ := h
  refine ⟨_, (pss_cons (ps_if (PW.pt (pw_or (pt_not (pt_val (pe_callB (kisi (K := K)) (by rfl) T.z_isinstance (by decide +kernel) (pa_cons (pv 0) (pa_cons (pe_bltn (v := .ty "tuple") (by rfl) T.z_tuple (by decide +kernel) rfl) pa_nil))))) (pw_or1 (pt_cmpR op_eq (pe_callB (klen (K := K)) (by rfl) T.z_len (by decide +kernel) (pa_cons (pv 0) pa_nil)) pe_int (nomark _))))) (pss_one (ps_ret pe_bl)) pss_nil)
      (pss_cons (ps_if (PW.pt (pw_or (pt_not (pt_val (pe_callB (kisi (K := K)) (by rfl) T.z_isinstance (by decide +kernel) (pa_cons (pe_ix (kixt (K := K)) (pv 0) pe_int (fun _ _ => rfl)) (pa_cons (pe_bltn (v := .ty "str") (by rfl) T.z_str (by decide +kernel) rfl) pa_nil))))) (pw_or1 (pt_cmpR (kdnin T.kd_FORMS) (pe_ix (kixt (K := K)) (pv 0) pe_int (fun _ _ => rfl)) (pe_gc (v := .ref C_FORMS) (by rfl) ⟨_, T.g_FORMS, rfl⟩) (by rfl))))) (pss_one (ps_ret pe_bl)) pss_nil)
      (pss_cons (ps_set (i := 1) sc_is_letter.nd rfl (Or.inl rfl) (pe_ix ix_kdict (pe_gc (v := .ref C_FORMS) (by rfl) ⟨_, T.g_FORMS, rfl⟩) (pe_ix (kixt (K := K)) (pv 0) pe_int (fun _ _ => rfl)) (fun _ _ => rfl)))
      (pss_one (ps_ret (pe_cvW (i := 1) hr (by rfl) (by first | exact Or.inl rfl | exact Or.inr (Or.inl rfl) | exact Or.inr (Or.inr rfl)) (pa_cons (pe_slice sl_tupA (pv 0) (po_some pe_int) po_none) pa_nil))))))), ?_⟩
  have q0 := q H (Same.refl _)
  cases li with
  | num i =>
    cases hv
    walk_at "rds"
    refine ⟨_, .ty _, _, _, false, rfl, .ty _, .base (.int _), kit_ty (by decide +kernel), ?_⟩
    walk_at "rds"
    exact q0
  | lst r =>
    walk_at "rds"
    refine ⟨_, .ty _, _, _, false, rfl, .ty _, hv.ty, kit_ty (show kitB "list" "tuple" = some false by decide +kernel), ?_⟩
    walk_at "rds"
    exact q0
  | empty =>
    cases hv with
    | tup ha hx =>
      cases hx
      walk_at "rds"
      refine ⟨_, .ty _, _, _, true, rfl, .ty _, ha.ty, kit_ty (by decide +kernel), ?_⟩
      walk_at "rds"
      refine ⟨_, _, rfl, .inr ha.sq, ?_⟩
      walk_at "rds"
      exact q0
  | int i r =>
    cases hv with
    | tup ha hx =>
      rename_i a xs
      have hl := hx.length
      cases hx with
      | cons h1 hx =>
        cases h1
        rename_i ys
        walk_at "rds"
        refine ⟨_, .ty _, _, _, true, rfl, .ty _, ha.ty, kit_ty (by decide +kernel), ?_⟩
        walk_at "rds"
        refine ⟨_, _, rfl, .inr ha.sq, ?_⟩
        walk_at "rds"
        refine ⟨a, _, 0, _, rfl, rfl, ha.sq, atI_nat (j := 0) rfl, ?_⟩
        walk_at "rds"
        refine ⟨_, .ty _, _, _, false, rfl, .ty _, .base (.int _), kit_ty (by decide +kernel), ?_⟩
        walk_at "rds"
        exact q0
  | none r =>
    cases hv with
    | tup ha hx =>
      rename_i a xs
      cases hx with
      | cons h1 hx =>
        cases h1
        rename_i ys _
        walk_at "rds"
        refine ⟨_, .ty _, _, _, true, rfl, .ty _, ha.ty, kit_ty (by decide +kernel), ?_⟩
        walk_at "rds"
        refine ⟨_, _, rfl, .inr ha.sq, ?_⟩
        walk_at "rds"
        refine ⟨a, _, 0, _, rfl, rfl, ha.sq, atI_nat (j := 0) rfl, ?_⟩
        walk_at "rds"
        refine ⟨_, .ty _, _, _, true, rfl, .ty _, .base (.str _), kit_ty (by decide +kernel), ?_⟩
        walk_at "rds"
        refine ⟨a, _, 0, _, rfl, rfl, ha.sq, atI_nat (j := 0) rfl, ?_⟩
        walk_at "rds"
        refine ⟨_, none, rfl, rfl, T.km_FORMS_0, ?_⟩
        walk_at "rds"
        exact q0
  | tag g r =>
    obtain ⟨fg, kg, hkg, cg, kd⟩ := tf g
    cases hv with
    | tup ha hx =>
      rename_i a xs
      cases hx with
      | cons h1 hx =>
        cases h1
        rename_i ys lz
        walk_at "rds"
        refine ⟨_, .ty _, _, _, true, rfl, .ty _, ha.ty, kit_ty (by decide +kernel), ?_⟩
        walk_at "rds"
        refine ⟨_, _, rfl, .inr ha.sq, ?_⟩
        walk_at "rds"
        refine ⟨a, _, 0, _, rfl, rfl, ha.sq, atI_nat (j := 0) rfl, ?_⟩
        walk_at "rds"
        refine ⟨_, .ty _, _, _, true, rfl, .ty _, .base (.str _), kit_ty (by decide +kernel), ?_⟩
        walk_at "rds"
        refine ⟨a, _, 0, _, rfl, rfl, ha.sq, atI_nat (j := 0) rfl, ?_⟩
        walk_at "rds"
        obtain ⟨_, _, _, l1, kl1, v1, r1⟩ := id kd
        refine ⟨_, some _, rfl, rfl, v1, ?_⟩
        walk_at "rds"
        refine ⟨a, _, 0, _, rfl, rfl, ha.sq, atI_nat (j := 0) rfl, ?_⟩
        refine ⟨_, _, _, rfl, rfl, kd, ?_⟩
        refine ⟨fg, _, kg, by omega, rfl, cg, ?_⟩
        walk_at "rds"
        delta tNoPart
        refine sl_dt (A := A) ha (.cons (.str _ lz) hx) (fun H' v s' dv => ?_)
        rw [show cutD (PyData.str g.s :: r) (some 1) none = r from (cutD_drop _ 1).trans rfl] at dv
        exact ⟨v, r, rfl, dv, fun H2 s2 => q _ (s'.trans s2)⟩
end

/-! ### route, check_letter -/
instance : DecidableEq Tag := fun a b => by
  cases a <;> cases b <;> first | exact isTrue rfl | exact isFalse (fun h => nomatch h)
theorem Tag.s_inj : ∀ g h : Tag, g.s = h.s → g = h := by
  intro g h
  cases g <;> cases h <;> first | exact fun _ => rfl | exact fun z => absurd z (by decide +kernel)
theorem tag_eq (g h : Tag) : decide (V.str g.s = V.str h.s) = decide (g = h) := decide_eq_decide.mpr ⟨fun z => Tag.s_inj g h (V.str.inj z), fun z => by rw [z]⟩
def wayT : Tag → Str
  | .command => "to_machine"
  | .answer => "to_client"
  | _ => "machine"
theorem LetIs.yes {d : PyData} (h : LetIs d true) : ∃ (g : Tag) (r : List PyData), d = .tuple (.str g.s :: r) ∧ g.f r = true := by
  have key : ∀ {d : PyData} {b : Bool}, LetIs d b → b = true → ∃ (g : Tag) (r : List PyData), d = .tuple (.str g.s :: r) ∧ g.f r = true := fun h e => by
    cases h with
    | tag g r => exact ⟨g, r, rfl, e⟩
    | none r => cases e
    | empty => cases e
    | int i r => cases e
    | lst r => cases e
    | num i => cases e
  exact key h rfl
def fitsT (g : Tag) (n : Int) (s r : PyData) : Bool := match g with
  | .command => dInt (-100) (-1) s && dInt 0 (3 * n + 1 - 1) r
  | .answer => dInt 0 (3 * n + 1 - 1) s && dInt (-100) (-1) r
  | _ => dInt 0 (3 * n + 1 - 1) s && dInt 0 (3 * n + 1 - 1) r
def spRoute (K : PySem.W.Frag) (A : Option Addr) (B : Addr) : Sp := fun vs H Q E => ∃ (v : V) (d : PyData) (b : Bool), vs = [v] ∧ Dt K H A v d ∧ LetIs d b ∧ (∀ g r, d = .tuple (.str g.s :: r) → b = true → ∀ H', Same H H' → Q (.str (wayT g)) H') ∧ (b = false → ∀ H', Same H H' → E (.ref B) none H')
def spCheck (K : PySem.W.Frag) (A : Option Addr) (C B : Addr) : Sp := fun vs H Q E => ∃ (p : Addr) (n : Int) (s r v : V) (ds dr d : PyData) (b ok : Bool), vs = [.ref p, s, r, v] ∧ GrAt C H p n ∧ Dt K H A s ds ∧ Dt K H A r dr ∧ Dt K H A v d ∧ LetIs d b ∧
  (b = false → ok = false) ∧ (∀ g r, d = .tuple (.str g.s :: r) → b = true → ok = fitsT g n ds dr) ∧ (ok = true → ∀ H', Same H H' → Q v H') ∧ (ok = false → ∀ H', Same H H' → E (.ref B) none H')
def spMem (K : PySem.W.Frag) (A : Option Addr) (C : Addr) : Sp := fun vs H Q _ => ∃ (p : Addr) (n : Int) (v : V) (d : PyData), vs = [.ref p, v] ∧ GrAt C H p n ∧ Dt K H A v d ∧ Q (.bl (dInt 0 (3 * n + 1 - 1) d)) H
theorem GrAt.on {C : Addr} {H H' : Hp} {p : Addr} {n : Int} (h : GrAt C H p n) (s : Same H H') : GrAt C H' p n := h.imp fun _ e => s _ _ e
section
variable {P : Program} {w : World} {K : PySem.W.Frag} {mg : Str → Option Value} {base : Heap}
theorem m_Group__is_memberD {C_Group : Addr} {C_BadGroup : Addr} {C_BadLetter : Addr} {C_BadText : Addr} {C_FORMS : Addr} {C_CONSTANTS : Addr} (T : Txt K mg w C_Group C_BadGroup C_BadLetter C_BadText C_FORMS C_CONSTANTS) (A : Option Addr) : Met P w K mg base 2 C_Group "is_member" (spMem K A C_Group) [] := by
  obtain ⟨f, fd, ps, ds, c, M, F, r⟩ := (m_Group__is_member (P := P) (w := w) (base := base) T).ex
  refine ⟨f, fd, ps, ds, c, M, F.imp fun vs H Q E h => ?_, r⟩
  obtain ⟨p, n, v, d, rfl, hg, hd, q⟩ := h
  refine ⟨p, n, v, rfl, hg, ?_⟩
  cases hd with
  | int i => exact .inl ⟨i, rfl, q⟩
  | non => exact .inr ⟨⟨_, .base .non, .inl (by decide +kernel)⟩, q⟩
  | bl b => exact .inr ⟨⟨_, .base (.bl b), .inr ⟨by decide +kernel, by decide +kernel⟩⟩, q⟩
  | str z _ => exact .inr ⟨⟨_, .base (.str z), .inl (by decide +kernel)⟩, q⟩
  | lst _ ha _ => exact .inr ⟨⟨_, .base (.lst ha), .inl (by decide +kernel)⟩, q⟩
  | tup ha _ => exact .inr ⟨⟨_, ha.ty, .inl (by decide +kernel)⟩, q⟩
theorem c_route {C_Group : Addr} {C_BadGroup : Addr} {C_BadLetter : Addr} {C_BadText : Addr} {C_FORMS : Addr} {C_CONSTANTS : Addr} (T : Txt K mg w C_Group C_BadGroup C_BadLetter C_BadText C_FORMS C_CONSTANTS) (A : Option Addr) : CalX P w K mg base 8 "route" (spRoute K A C_BadLetter) := by
  have c_is_letter := c_is_letter (P := P) (w := w) (base := base) T A
  refine calX T.d_route sc_route (fun vs H Q E h => ?_) (fun f cdv A' outer s H vs Q E hr h => ?_)
  · obtain ⟨v, d, b, rfl, _⟩ := h; rfl
  obtain ⟨v, d, b, rfl, hv, li, q, qe⟩ := h
  refine ⟨_, (pss_cons (ps_if (pt_not (pt_val (pe_c c_is_letter hr (by omega) (by rfl) (pa_cons (pv 0) pa_nil)))) (pss_one (ps_raise rfl (takes_of rfl rfl rfl rfl) (pmk_ok T.x_BadLetter (by rfl)))) pss_nil)
      (pss_cons (ps_if (pt_cmpR op_eq (pe_ix (kixt (K := K)) (pv 0) pe_int (fun _ _ => rfl)) pe_str (nomark _)) (pss_one (ps_ret pe_str)) pss_nil)
      (pss_cons (ps_if (pt_cmpR op_eq (pe_ix (kixt (K := K)) (pv 0) pe_int (fun _ _ => rfl)) pe_str (nomark _)) (pss_one (ps_ret pe_str)) pss_nil)
      (pss_one (ps_ret pe_str))))), ?_⟩
  walk_at "rds"
  refine ⟨v, d, b, rfl, hv, li, fun H2 s2 => ?_⟩
  cases b with
  | false =>
    walk_at "rds"
    exact qe rfl _ s2
  | true =>
    obtain ⟨g, r, rfl, hgr⟩ := li.yes
    have q := q g r rfl rfl
    cases hv.on s2 with
    | tup ha hx =>
      rename_i a xs
      cases hx with
      | cons h1 hx =>
        cases h1
        walk_at "rds"
        refine ⟨a, _, 0, _, rfl, rfl, ha.sq, atI_nat (j := 0) rfl, ?_⟩
        walk_at "rds"
        refine (show (if decide (V.str g.s = V.str (Tag.s .command)) = true then _ else _ : Prop) from ?_)
        rw [tag_eq]
        by_cases e1 : g = .command
        · subst e1
          refine ifT (decide_eq_true rfl) ?_
          walk_at "rds"
          exact q _ s2
        refine ifF (decide_eq_false e1) ?_
        walk_at "rds"
        refine ⟨a, _, 0, _, rfl, rfl, ha.sq, atI_nat (j := 0) rfl, ?_⟩
        walk_at "rds"
        refine (show (if decide (V.str g.s = V.str (Tag.s .answer)) = true then _ else _ : Prop) from ?_)
        rw [tag_eq]
        by_cases e2 : g = .answer
        · subst e2
          refine ifT (decide_eq_true rfl) ?_
          walk_at "rds"
          exact q _ s2
        refine ifF (decide_eq_false e2) ?_
        walk_at "rds"
        have ew : wayT g = "machine" := by cases g <;> first | rfl | exact absurd rfl e1 | exact absurd rfl e2
        rw [ew] at q
        exact q _ s2
theorem c_check_letter {C_Group : Addr} {C_BadGroup : Addr} {C_BadLetter : Addr} {C_BadText : Addr} {C_FORMS : Addr} {C_CONSTANTS : Addr} (T : Txt K mg w C_Group C_BadGroup C_BadLetter C_BadText C_FORMS C_CONSTANTS) (A : Option Addr) : CalX P w K mg base 9 "check_letter" (spCheck K A C_Group C_BadLetter) := by
  have c_route := c_route (P := P) (w := w) (base := base) T A
  have c_is_client := c_is_client (P := P) (w := w) (base := base) T A
  have m_Group__is_member := m_Group__is_memberD (P := P) (w := w) (base := base) T A
  refine calX T.d_check_letter sc_check_letter (fun vs H Q E h => ?_) (fun f cdv A' outer s H vs Q E hr h => ?_)
  · obtain ⟨p, n, s, r, v, ds, dr, d, b, ok, rfl, _⟩ := h; rfl
  obtain ⟨p, n, sv, rv, v, ds, dr, d, b, ok, rfl, hg, hs, hrv, hv, li, hb, hok, q, qe⟩ := h
  refine ⟨_, (pss_cons (ps_set (i := 4) sc_check_letter.nd rfl (Or.inl rfl) (pe_cX c_route hr (by omega) (by rfl) (fun σ => passAt (takes_of rfl rfl rfl rfl) σ) (pa_cons (pv 3) pa_nil)))
      (pss_cut (ps_if (pt_cmpR op_eq (pv 4) pe_str (nomark _)) (pss_one (ps_set (i := 5) sc_check_letter.nd rfl (Or.inl rfl) (pe_and (pe_c c_is_client hr (by omega) (by rfl) (pa_cons (pv 1) pa_nil)) (pe_one (pe_mt m_Group__is_member hr (by decide) (pv 0) (pa_cons (pv 2) pa_nil)))))) (pss_one (ps_if (pt_cmpR op_eq (pv 4) pe_str (nomark _)) (pss_one (ps_set (i := 5) sc_check_letter.nd rfl (Or.inl rfl) (pe_and (pe_mt m_Group__is_member hr (by decide) (pv 0) (pa_cons (pv 1) pa_nil)) (pe_one (pe_c c_is_client hr (by omega) (by rfl) (pa_cons (pv 2) pa_nil)))))) (pss_one (ps_set (i := 5) sc_check_letter.nd rfl (Or.inl rfl) (pe_and (pe_mt m_Group__is_member hr (by decide) (pv 0) (pa_cons (pv 1) pa_nil)) (pe_one (pe_mt m_Group__is_member hr (by decide) (pv 0) (pa_cons (pv 2) pa_nil)))))))))
      (pss_cons (ps_if (pt_not (pt_val (pv 5))) (pss_one (ps_raise rfl (takes_of rfl rfl rfl rfl) (pmk_ok T.x_BadLetter (by rfl)))) pss_nil)
      (pss_one (ps_ret (pv 3)))))), ?_⟩
  walk_at "rds"
  refine ⟨v, d, b, rfl, hv, li, fun g r ed eb H1 s1 => ?_, fun eb H1 s1 => qe (hb eb) _ s1⟩
  have hok := hok g r ed eb
  have hg1 := hg.on s1
  obtain ⟨dg, gg⟩ := id hg1
  have hs1 := hs.on s1
  have hr1 := hrv.on s1
  subst hok
  refine ⟨fun σ' H' => σ' = [some (.ref p), some sv, some rv, some v, some (.str (wayT g)), some (.bl (fitsT g n ds dr))] ∧ Same H H', ?_, ?_⟩
  · by_cases e1 : g = .command
    · subst e1
      walk_at "rds"
      refine ⟨sv, ds, rfl, hs1, fun H2 s2 => ?_⟩
      have hg2 := hg1.on s2
      obtain ⟨dg2, gg2⟩ := id hg2
      refine ⟨_, rfl, ?_⟩
      cases z : dInt (-100) (-1) ds with
      | false =>
        refine ifF rfl ?_
        exact ⟨by show _ = [_, _, _, _, _, some (V.bl (dInt (-100) (-1) ds && _))]; rw [z]; rfl, s1.trans s2⟩
      | true =>
        refine ifT rfl ?_
        walk_at "rds"
        refine ⟨p, dg2, _, rfl, gg2, rfl, ?_⟩
        walk_at "rds"
        refine ⟨p, n, rv, dr, rfl, hg2, hr1.on s2, ?_⟩
        exact ⟨by show _ = [_, _, _, _, _, some (V.bl (dInt (-100) (-1) ds && _))]; rw [z]; rfl, s1.trans s2⟩
    by_cases e2 : g = .answer
    · subst e2
      walk_at "rds"
      refine ⟨p, dg, _, rfl, gg, rfl, ?_⟩
      walk_at "rds"
      refine ⟨p, n, sv, ds, rfl, hg1, hs1, ?_⟩
      refine ⟨_, rfl, ?_⟩
      cases z : dInt 0 (3 * n + 1 - 1) ds with
      | false =>
        refine ifF rfl ?_
        exact ⟨by show _ = [_, _, _, _, _, some (V.bl (dInt 0 (3 * n + 1 - 1) ds && _))]; rw [z]; rfl, s1⟩
      | true =>
        refine ifT rfl ?_
        walk_at "rds"
        refine ⟨rv, dr, rfl, hr1, fun H2 s2 => ?_⟩
        exact ⟨by show _ = [_, _, _, _, _, some (V.bl (dInt 0 (3 * n + 1 - 1) ds && _))]; rw [z]; rfl, s1.trans s2⟩
    have ew : wayT g = "machine" := by cases g <;> first | rfl | exact absurd rfl e1 | exact absurd rfl e2
    have ef : fitsT g n ds dr = (dInt 0 (3 * n + 1 - 1) ds && dInt 0 (3 * n + 1 - 1) dr) := by cases g <;> first | rfl | exact absurd rfl e1 | exact absurd rfl e2
    rw [ew, ef]
    walk_at "rds"
    refine ⟨p, dg, _, rfl, gg, rfl, ?_⟩
    walk_at "rds"
    refine ⟨p, n, sv, ds, rfl, hg1, hs1, ?_⟩
    refine ⟨_, rfl, ?_⟩
    cases z : dInt 0 (3 * n + 1 - 1) ds with
    | false =>
      refine ifF rfl ?_
      exact ⟨rfl, s1⟩
    | true =>
      refine ifT rfl ?_
      walk_at "rds"
      refine ⟨p, dg, _, rfl, gg, rfl, ?_⟩
      walk_at "rds"
      refine ⟨p, n, rv, dr, rfl, hg1, hr1, ?_⟩
      exact ⟨rfl, s1⟩
  rintro σ' H2 ⟨rfl, s2⟩
  cases ez : fitsT g n ds dr with
  | false =>
    walk_at "rds"
    exact qe ez _ s2
  | true =>
    walk_at "rds"
    exact q ez _ s2
end

/-! ### letters as data -/
inductive LetD : Tag → List PyData → Prop
  | blk {g : Tag} {b : PyData} : g = .propose ∨ g = .vote ∨ g = .ready → dBlock b = true → LetD g [b]
  | vouch {c : PyData} : dCmd c = true → LetD .vouch [c]
  | claim {n : Int} : 0 ≤ n → n ≤ 1000000000000 → LetD .claim [.int n]
  | give {e p h : Int} {cs : List PyData} : dBlock (.tuple [.int e, .int p, .int h, .tuple cs]) = true → LetD .give [.int h, .tuple [.int e, .int p, .int h, .tuple cs]]
  | text {g : Tag} {n m : Int} {z : Str} : (g = .command ∧ m = 240) ∨ (g = .answer ∧ m = 200) → 1 ≤ n → n ≤ 1000000000000 → isPr z = true → (z.length : Int) ≤ m → LetD g [.int n, .str z]
theorem LetD.yes {g : Tag} {r : List PyData} (h : LetD g r) : g.f r = true := by
  cases h with
  | blk hg hb => rcases hg with rfl | rfl | rfl <;> exact hb
  | vouch hc => exact hc
  | claim h0 h1 => exact decide_eq_true ⟨h0, h1⟩
  | give hb => exact Bool.and_eq_true_iff.mpr ⟨hb, decide_eq_true ⟨Int.le_refl _, Int.le_refl _⟩⟩
  | text hg n0 n1 pz lz =>
    rcases hg with ⟨rfl, rfl⟩ | ⟨rfl, rfl⟩ <;>
    exact Bool.and_eq_true_iff.mpr ⟨decide_eq_true ⟨n0, n1⟩, Bool.and_eq_true_iff.mpr ⟨pz, decide_eq_true lz⟩⟩
theorem LetD.is {g : Tag} {r : List PyData} (h : LetD g r) : LetIs (.tuple (.str g.s :: r)) true := by
  have := LetIs.tag g r
  rw [h.yes] at this
  exact this

/-! ### _law_letter -/
def spLLet (K : PySem.W.Frag) : Sp := fun vs H Q _ => ∃ (D A : Addr), vs = [.ref D, .ref A] ∧ Dr H D A ∧ ∀ H' x g r, Mod A H H' → Dr H' D A → Dt K H' (some A) x (.tuple (.str (Tag.s g) :: r)) → LetD g r → Q x H'
section
variable {P : Program} {w : World} {K : PySem.W.Frag} {mg : Str → Option Value} {base : Heap}
theorem c__law_letter {C_Group : Addr} {C_BadGroup : Addr} {C_BadLetter : Addr} {C_BadText : Addr} {C_FORMS : Addr} {C_CONSTANTS : Addr} (T : Txt K mg w C_Group C_BadGroup C_BadLetter C_BadText C_FORMS C_CONSTANTS) : Cal P w K mg base 6 "_law_letter" (spLLet K) [] := by
  have c__law_next := c__law_next (P := P) (w := w) (base := base) T
  have c__law_big := c__law_big (P := P) (w := w) (base := base) T
  have c__law_string := c__law_string (P := P) (w := w) (base := base) T
  have c__law_command := c__law_command (P := P) (w := w) (base := base) T
  have c__law_block := c__law_block (P := P) (w := w) (base := base) T
  refine cal T.d__law_letter sc__law_letter (fun vs H Q E h => ?_) (fun f cdv A' outer s H vs Q E hr h => ?_)
  · obtain ⟨D, A, rfl, _⟩ := h; rfl
  obtain ⟨D, A, rfl, dr, q⟩ := h
  have e11 : (10 : Int) ^ (11 : Int).toNat = 100000000000 := by decide
  refine ⟨_, (pss_cons (ps_set (i := 2) sc__law_letter.nd rfl (Or.inl rfl) (pe_c c__law_next hr (by omega) (by rfl) (pa_cons (pv 0) (pa_cons (pv 1) (pa_cons pe_int pa_nil)))))
      (pss_cons (ps_set (i := 3) sc__law_letter.nd rfl (Or.inl rfl) (pe_c c__law_block hr (by omega) (by rfl) (pa_cons (pv 0) (pa_cons (pv 1) (pa_cons pe_int pa_nil)))))
      (pss_cons (ps_if (pt_cmpR op_lt (pv 2) pe_int (nomark _)) (pss_one (ps_ret (pe_tup (pa_cons (pe_ix (kixl (K := K)) (pe_lst (pa_cons pe_str (pa_cons pe_str (pa_cons pe_str pa_nil)))) (pv 2) (fun _ _ => rfl)) (pa_cons (pv 3) pa_nil))))) pss_nil)
      (pss_cons (ps_if (pt_cmpR op_eq (pv 2) pe_int (nomark _)) (pss_one (ps_ret (pe_tup (pa_cons pe_str (pa_cons (pe_c c__law_command hr (by omega) (by rfl) (pa_cons (pv 0) (pa_cons (pv 1) (pa_cons (pe_op op_sub (pe_un un_neg pe_int) (pe_c c__law_next hr (by omega) (by rfl) (pa_cons (pv 0) (pa_cons (pv 1) (pa_cons pe_int pa_nil))))) pa_nil)))) pa_nil))))) pss_nil)
      (pss_cons (ps_if (pt_cmpR op_eq (pv 2) pe_int (nomark _)) (pss_one (ps_ret (pe_tup (pa_cons pe_str (pa_cons (pe_op op_mul (pe_c c__law_next hr (by omega) (by rfl) (pa_cons (pv 0) (pa_cons (pv 1) (pa_cons pe_int pa_nil)))) (pe_c c__law_big hr (by omega) (by rfl) (pa_cons (pv 0) (pa_cons (pv 1) (pa_cons (pe_op op_pow pe_int pe_int) pa_nil))))) pa_nil))))) pss_nil)
      (pss_cons (ps_if (pt_cmpR op_eq (pv 2) pe_int (nomark _)) (pss_one (ps_ret (pe_tup (pa_cons pe_str (pa_cons (pe_ix (kixt (K := K)) (pv 3) pe_int (fun _ _ => rfl)) (pa_cons (pv 3) pa_nil)))))) pss_nil)
      (pss_cons (ps_set (i := 4) sc__law_letter.nd rfl (Or.inl rfl) (pe_op op_add pe_int (pe_op op_mul (pe_c c__law_next hr (by omega) (by rfl) (pa_cons (pv 0) (pa_cons (pv 1) (pa_cons pe_int pa_nil)))) (pe_c c__law_big hr (by omega) (by rfl) (pa_cons (pv 0) (pa_cons (pv 1) (pa_cons (pe_op op_pow pe_int pe_int) pa_nil)))))))
      (pss_cons (ps_if (pt_cmpR op_eq (pv 2) pe_int (nomark _)) (pss_one (ps_ret (pe_tup (pa_cons pe_str (pa_cons (pv 4) (pa_cons (pe_c c__law_string hr (by omega) (by rfl) (pa_cons (pv 0) (pa_cons (pv 1) (pa_cons pe_int pa_nil)))) pa_nil)))))) pss_nil)
      (pss_one (ps_ret (pe_tup (pa_cons pe_str (pa_cons (pv 4) (pa_cons (pe_c c__law_string hr (by omega) (by rfl) (pa_cons (pv 0) (pa_cons (pv 1) (pa_cons pe_int pa_nil)))) pa_nil)))))))))))))), ?_⟩
  walk_at "rds"
  refine ⟨D, A, 8, rfl, dr, by decide, fun H1 k k0 k1 md1 dr1 => ?_⟩
  walk_at "rds"
  refine ⟨D, A, 2, rfl, dr1, by decide, by decide, fun H2 xb e p h cs md2 dr2 hb okb lcs => ?_⟩
  have md12 := md1.trans md2
  walk_at "rds"
  refine ite2 (fun z => ?_) (fun z => ?_)
  · have z : k < 3 := of_decide_eq_true z
    walk_at "rds"
    intro l hl
    have s3 := same_upd (o := .lst [.str (Str.ofString "propose"), .str (Str.ofString "vote"), .str (Str.ofString "ready")]) hl
    have el : upd H2 l (.lst [.str (Str.ofString "propose"), .str (Str.ofString "vote"), .str (Str.ofString "ready")]) l = some (.lst [.str (Str.ofString "propose"), .str (Str.ofString "vote"), .str (Str.ofString "ready")]) := upd_same
    generalize upd H2 l (.lst [.str (Str.ofString "propose"), .str (Str.ofString "vote"), .str (Str.ofString "ready")]) = H3 at s3 el
    obtain ⟨v, mv, gv⟩ := atI_lt (xs := [V.str (Str.ofString "propose"), V.str (Str.ofString "vote"), V.str (Str.ofString "ready")]) k0 z
    walk_at "rds"
    refine ⟨l, _, _, v, rfl, rfl, sq el, gv, ?_⟩
    have hv : ∃ g : Tag, v = .str g.s ∧ (g = .propose ∨ g = .vote ∨ g = .ready) := by
      simp only [List.mem_cons, List.not_mem_nil, or_false] at mv
      rcases mv with rfl | rfl | rfl
      · exact ⟨.propose, rfl, .inl rfl⟩
      · exact ⟨.vote, rfl, .inr (.inl rfl)⟩
      · exact ⟨.ready, rfl, .inr (.inr rfl)⟩
    obtain ⟨g, rfl, hg⟩ := hv
    walk_at "rds"
    intro t ht
    have s4 := s3.trans (same_upd (o := .tup [.str g.s, xb]) ht)
    exact q _ _ g _ (md12.trans (Same.mod s4)) (dr2.same s4) (.tup (.inl upd_same) (.cons (.str _ (by cases g <;> decide +kernel)) (.cons (hb.on s4) .nil))) (.blk hg okb)
  have z : ¬ k < 3 := fun y => z (decide_eq_true y)
  walk_at "rds"
  refine ite2 (fun z3 => ?_) (fun z3 => ?_)
  · walk_at "rds"
    refine ⟨D, A, 100, rfl, dr2, by decide, fun H3 r r0 r1 md3 dr3 => ?_⟩
    walk_at "rds"
    refine ⟨D, A, _, rfl, dr3, by omega, by omega, fun H4 x d md4 dr4 hd okd _ => ?_⟩
    walk_at "rds"
    intro t ht
    have s5 := same_upd (o := .tup [.str (Str.ofString "vouch"), x]) ht
    exact q _ _ .vouch _ (((md12.trans md3).trans md4).trans (Same.mod s5)) (dr4.same s5) (.tup (.inl upd_same) (.cons (.str _ (by decide +kernel)) (.cons (hd.on s5) .nil))) (.vouch okd)
  walk_at "rds"
  refine ite2 (fun z4 => ?_) (fun z4 => ?_)
  · walk_at "rds"
    refine ⟨D, A, 3, rfl, dr2, by decide, fun H3 r r0 r1 md3 dr3 => ?_⟩
    walk_at "rds"
    refine ⟨D, A, _, rfl, dr3, by decide, fun H4 b b0 b1 md4 dr4 => ?_⟩
    rw [e11] at b1
    have m0 : 0 ≤ r * b := Int.mul_nonneg r0 b0
    have m1 : r * b ≤ 2 * b := Int.mul_le_mul_of_nonneg_right (by omega) b0
    walk_at "rds"
    intro t ht
    have s5 := same_upd (o := .tup [.str (Str.ofString "claim"), .int (r * b)]) ht
    exact q _ _ .claim _ (((md12.trans md3).trans md4).trans (Same.mod s5)) (dr4.same s5) (.tup (.inl upd_same) (.cons (.str _ (by decide +kernel)) (.cons (.int _) .nil))) (.claim m0 (by omega))
  walk_at "rds"
  refine ite2 (fun z5 => ?_) (fun z5 => ?_)
  · obtain ⟨ba, y1, y2, y3, y4, rfl, hba, h1, h2, h3, h4⟩ := id hb.quad
    cases h3
    walk_at "rds"
    refine ⟨ba, _, 2, _, rfl, rfl, hba.sq, atI_nat (j := 2) rfl, ?_⟩
    walk_at "rds"
    intro t ht
    have s5 := same_upd (o := .tup [.str (Str.ofString "give"), .int h, .ref ba]) ht
    exact q _ _ .give _ (md12.trans (Same.mod s5)) (dr2.same s5) (.tup (.inl upd_same) (.cons (.str _ (by decide +kernel)) (.cons (.int _) (.cons (hb.on s5) .nil)))) (.give okb)
  walk_at "rds"
  refine ⟨D, A, 3, rfl, dr2, by decide, fun H3 r r0 r1 md3 dr3 => ?_⟩
  walk_at "rds"
  refine ⟨D, A, _, rfl, dr3, by decide, fun H4 b b0 b1 md4 dr4 => ?_⟩
  rw [e11] at b1
  have m0 : 0 ≤ r * b := Int.mul_nonneg r0 b0
  have m1 : r * b ≤ 2 * b := Int.mul_le_mul_of_nonneg_right (by omega) b0
  walk_at "rds"
  have mk : ∀ (g : Tag) (m : Int), ((g = .command ∧ m = 240) ∨ (g = .answer ∧ m = 200)) → ∀ (H5 : Hp) (z : Str), z.length ≤ m → isPr z = true → Mod A H4 H5 → Dr H5 D A → ∀ t, H5 t = none → Q (.ref t) (upd H5 t (.tup [.str g.s, .int (1 + r * b), .str z])) := fun g m hg H5 z lz pz md5 dr5 t ht => by
    have s5 := same_upd (o := .tup [.str g.s, .int (1 + r * b), .str z]) ht
    have lg : g.s.length ≤ 1000000 := by cases g <;> decide +kernel
    exact q _ _ g _ ((((md12.trans md3).trans md4).trans md5).trans (Same.mod s5)) (dr5.same s5) (.tup (.inl upd_same) (.cons (.str _ lg) (.cons (.int _) (.cons (.str _ (by omega)) .nil)))) (.text hg (by omega) (by omega) pz lz)
  refine ite2 (fun z6 => ?_) (fun z6 => ?_)
  · walk_at "rds"
    refine ⟨D, A, 240, rfl, dr4, by decide, by decide, fun H5 z lz pz md5 dr5 => ?_⟩
    walk_at "rds"
    intro t ht
    exact mk .command 240 (.inl ⟨rfl, rfl⟩) H5 z lz pz md5 dr5 t ht
  · walk_at "rds"
    refine ⟨D, A, 200, rfl, dr4, by decide, by decide, fun H5 z lz pz md5 dr5 => ?_⟩
    walk_at "rds"
    intro t ht
    exact mk .answer 200 (.inr ⟨rfl, rfl⟩) H5 z lz pz md5 dr5 t ht
end

/-! ### x is True, x is False, whatever x is -/
section
variable {X : Cx}
theorem op_isB : OpR X (compareOp .Is) (fun x y H Q => ∃ b : Bool, y = .bl b ∧ Q (.bl (decide (x = .bl b))) H) := by
  intro pins s σ H x y v u Q I rx ry h
  obtain ⟨b, rfl, q⟩ := h
  cases (show u = Value.bool b from ry)
  cases x with
  | non => cases rx; exact wpAny_is_plain rfl ⟨.bl false, H, I, rfl, by simpa using q⟩
  | bl a =>
    cases (show v = Value.bool a from rx)
    refine wpAny_is_plain rfl ⟨.bl (decide (a = b)), H, I, ?_, by simpa using q⟩
    cases a <;> cases b <;> rfl
  | int i => obtain ⟨t, rfl⟩ := rx; exact wpAny_is_plain rfl ⟨.bl false, H, I, rfl, by simpa using q⟩
  | str i => obtain ⟨t, rfl⟩ := rx; exact wpAny_is_plain rfl ⟨.bl false, H, I, rfl, by simpa using q⟩
  | byt i => obtain ⟨t, rfl⟩ := rx; exact wpAny_is_plain rfl ⟨.bl false, H, I, rfl, by simpa using q⟩
  | flt i => obtain ⟨t, rfl⟩ := rx; exact wpAny_is_plain rfl ⟨.bl false, H, I, rfl, by simpa using q⟩
  | ref i => cases rx; exact wpAny_is_plain rfl ⟨.bl false, H, I, rfl, by simpa using q⟩
  | ty i => cases rx; exact wpAny_is_plain rfl ⟨.bl false, H, I, rfl, by simpa using q⟩
/-- len of a text, a list or a tuple -/
def rLenM (K : PySem.W.Frag) : List V → Hp → VK → Prop := fun xs H Q => (∃ z, xs = [V.str z] ∧ z.length ≤ sizeLine ∧ Q (.int z.length) H) ∨ rLenK K xs H Q
theorem klenM {K : PySem.W.Frag} (h : X.K = K := by rfl) : CallR X (.builtin "len") (rLenM K) := fun pins s σ H xs us Q I rv q => q.elim (call_len_str pins s σ H xs us Q I rv) (klen h pins s σ H xs us Q I rv)
end

/-! ### canonical texts, without Python -/
def fewI (i : Int) : Bool := decide (((Builtin.Int.intBits i : Nat) : Int) ≤ 240) && decide ((((toString (if i < 0 then -i else i) : String) |> Str.ofString).length : Int) ≤ 60)
def hdr (n : Nat) : Str := ((Str.empty ++ "t") ++ Str.ofString (toString (n : Int))) ++ ":"
/-- the text of what is no tuple -/
def sgT : PyData → Option Str
  | .none => some "n"
  | .bool true => some "y"
  | .bool false => some "z"
  | .int i => if fewI i = true then some (((Str.empty ++ "i") ++ Str.ofString (toString i)) ++ ";") else none
  | .str z => if isPr z = true then some ((((Str.empty ++ "s") ++ Str.ofString (toString (z.length : Int))) ++ ":") ++ z) else none
  | _ => none
def isTup : PyData → Bool
  | .tuple _ => true
  | _ => false
def fit (room : Int) : Option Str → Option Str
  | none => none
  | some z => if (z.length : Int) > room then none else some z
mutual
def encT : Nat → Int → PyData → Option Str
  | k, room, .tuple ds => fit room (match k with
    | 0 => none
    | k + 1 => encL k (room - (hdr ds.length).length) (hdr ds.length) ds)
  | _, room, d => fit room (sgT d)
def encL : Nat → Int → Str → List PyData → Option Str
  | _, _, acc, [] => some acc
  | k, room, acc, d :: r => match encT k room d with
    | none => none
    | some z => encL k (room - z.length) (acc ++ z) r
end
theorem encT_tup (k : Nat) (room : Int) (ds : List PyData) : encT (k + 1) room (.tuple ds) = fit room (encL k (room - (hdr ds.length).length) (hdr ds.length) ds) := by rw [encT]
theorem encT_zero (room : Int) (ds : List PyData) : encT 0 room (.tuple ds) = none := by rw [encT]; rfl
theorem encT_sg {k : Nat} {room : Int} {d : PyData} (h : isTup d = false) : encT k room d = fit room (sgT d) := by
  cases d with
  | tuple ds => cases h
  | _ => rw [encT]; all_goals exact fun _ z => nomatch z
theorem encL_cons (k : Nat) (room : Int) (acc : Str) (d : PyData) (r : List PyData) : encL k room acc (d :: r) = match encT k room d with
    | none => none
    | some z => encL k (room - z.length) (acc ++ z) r := by rw [encL]
theorem itx_len {i : Int} {k : Nat} (hk : 0 < k) (h : i.natAbs.log2 < k) : (Str.ofString (toString i)).length ≤ k + 1 := by
  rw [PySem.ofString_length]; exact int_text_length_le hk h
theorem log2_of_lt {n k : Nat} (hk : 0 < k) (h : n < 2 ^ k) : n.log2 < k := by
  by_cases z : n = 0
  · subst z; simpa using hk
  · exact (Nat.log2_lt z).mpr h
theorem len_app2 (a b : Str) : (a ++ b).length = a.length + b.length := Str.length_append a b
mutual
/-- no integer is beyond all bounds -/
def BigO : PyData → Prop
  | .int i => i.natAbs < 2 ^ 1000
  | .tuple ds => ds.length ≤ 10000 ∧ BigL ds
  | _ => True
def BigL : List PyData → Prop
  | [] => True
  | d :: r => BigO d ∧ BigL r
end
theorem BigL.mem : ∀ {ds : List PyData}, BigL ds → ∀ d ∈ ds, BigO d
  | _ :: _, h, _, .head _ => by rw [BigL] at h; exact h.1
  | _ :: _, h, _, .tail _ m => by rw [BigL] at h; exact BigL.mem h.2 _ m
theorem encT_fit {k : Nat} {room : Int} {d : PyData} {z : Str} (h : encT k room d = some z) : (z.length : Int) ≤ room := by
  have key : ∀ x : Option Str, fit room x = some z → (z.length : Int) ≤ room := by
    intro x e
    cases x with
    | none => cases e
    | some y =>
      by_cases g : (y.length : Int) > room
      · rw [show fit room (some y) = none from if_pos g] at e; cases e
      · rw [show fit room (some y) = some y from if_neg g] at e; cases e; omega
  cases d with
  | tuple ds =>
    cases k with
    | zero => rw [encT_zero] at h; cases h
    | succ k => rw [encT_tup] at h; exact key _ h
  | _ => rw [encT_sg rfl] at h; exact key _ h
theorem encL_len {k : Nat} : ∀ (ds : List PyData) (room : Int) (acc z : Str), encL k room acc ds = some z → z.length ≤ acc.length + room.toNat
  | [], room, acc, z, h => by rw [encL] at h; cases h; omega
  | d :: r, room, acc, z, h => by
    rw [encL_cons] at h
    cases e : encT k room d with
    | none => rw [e] at h; cases h
    | some y =>
      rw [e] at h
      have := encT_fit e
      have ih := encL_len r _ _ _ h
      rw [len_app2] at ih
      omega
def rawT (n : Nat) (room : Int) (ds : List PyData) : Option Str := match n with
  | 0 => none
  | n + 1 => encL n (room - (hdr ds.length).length) (hdr ds.length) ds
theorem hdr_len {n : Nat} (h : n ≤ 1000000) : (hdr n).length ≤ 1003 := by
  have lg : ((n : Int)).natAbs.log2 < 1000 := log2_of_lt (by omega) (by have : (2:Nat) ^ 20 ≤ 2 ^ 1000 := Nat.pow_le_pow_right (by omega) (by omega); have : (2:Nat) ^ 20 = 1048576 := rfl; omega)
  have tl := itx_len (by omega) lg
  have e1 : (Str.empty).length = 0 := rfl
  have e2 : (Str.ofString "t").length = 1 := rfl
  have e3 : (Str.ofString ":").length = 1 := rfl
  show (((Str.empty ++ Str.ofString "t") ++ Str.ofString (toString (n : Int))) ++ Str.ofString ":").length ≤ _
  simp only [len_app2]; omega
theorem rawT_len {n : Nat} {room : Int} {ds : List PyData} {z : Str} (hd : ds.length ≤ 1000000) (hr : room ≤ 1000000) (h : rawT n room ds = some z) : z.length ≤ 16000000 := by
  cases n with
  | zero => cases h
  | succ n =>
    have := encL_len _ _ _ _ h
    have := hdr_len hd
    omega
theorem sgT_len {d : PyData} {z : Str} (hs : ∀ y, d = .str y → y.length ≤ 1000000) (hi : ∀ i, d = .int i → i.natAbs < 2 ^ 1000) (h : sgT d = some z) : z.length ≤ 16000000 := by
  have e1 : (Str.empty).length = 0 := rfl
  cases d with
  | none => cases h; decide
  | bool b => cases b <;> (cases h; decide)
  | int i =>
    have lg : i.natAbs.log2 < 1000 := log2_of_lt (by omega) (hi i rfl)
    have tl := itx_len (by omega) lg
    have e2 : (Str.ofString "i").length = 1 := rfl
    have e3 : (Str.ofString ";").length = 1 := rfl
    replace h : (if fewI i = true then some (((Str.empty ++ Str.ofString "i") ++ Str.ofString (toString i)) ++ Str.ofString ";") else none) = some z := h
    split at h
    · cases h; simp only [len_app2]; omega
    · cases h
  | str y =>
    have hy := hs y rfl
    have lg : ((y.length : Int)).natAbs.log2 < 1000 := log2_of_lt (by omega) (by have : (2:Nat) ^ 20 ≤ 2 ^ 1000 := Nat.pow_le_pow_right (by omega) (by omega); have : (2:Nat) ^ 20 = 1048576 := rfl; omega)
    have tl := itx_len (by omega) lg
    have e2 : (Str.ofString "s").length = 1 := rfl
    have e3 : (Str.ofString ":").length = 1 := rfl
    replace h : (if isPr y = true then some ((((Str.empty ++ Str.ofString "s") ++ Str.ofString (toString (y.length : Int))) ++ Str.ofString ":") ++ y) else none) = some z := h
    split at h
    · cases h; simp only [len_app2]; omega
    · cases h
  | _ => cases h
def jn (ys : List Str) : Str := Txt.join (Str.ofString "") ys
theorem jn_one (z : Str) : jn [z] = z := eq_of_beq (join_closes (sep' := Str.ofString "") (ys := [z]) rfl)
theorem strjoin_cons (x : Str) : ∀ (l : List Str), Str.join (Str.ofString "") (x :: l) = x ++ Str.join (Str.ofString "") l
  | [] => (PySem.Str.append_empty x).symm
  | y :: r => by
    show x ++ Str.empty ++ Str.join (Str.ofString "") (y :: r) = _
    rw [PySem.Str.append_empty]
theorem strjoin_snoc (z : Str) : ∀ (l : List Str), Str.join (Str.ofString "") (l ++ [z]) = Str.join (Str.ofString "") l ++ z
  | [] => (PySem.Str.empty_append z).symm
  | x :: r => by rw [List.cons_append, strjoin_cons, strjoin_cons, strjoin_snoc z r, Str.append_assoc]
theorem jn_snoc (ys : List Str) (z : Str) : jn (ys ++ [z]) = jn ys ++ z := by
  have e : ∀ l, jn l = Str.join (Str.ofString "") l := fun l => eq_of_beq (join_closes rfl)
  rw [e, e, strjoin_snoc]
theorem jn_len : ∀ ys : List Str, (jn ys).length = (ys.map (·.length)).sum := by
  have e : ∀ l, jn l = Str.join (Str.ofString "") l := fun l => eq_of_beq (join_closes rfl)
  intro ys
  rw [e]
  induction ys with
  | nil => rfl
  | cons y r ih => rw [strjoin_cons, len_app2, ih, List.map_cons, List.sum_cons]
theorem BigL.get : ∀ {ds : List PyData} {i : Nat} {d : PyData}, BigL ds → ds[i]? = some d → BigO d := fun h e => h.mem _ (List.mem_of_getElem? e)

/-! ### single_text -/
def spFew (K : PySem.W.Frag) : Sp := fun vs H Q _ => ∃ (v : V), vs = [v] ∧ ((∃ i, v = .int i ∧ i.natAbs < 2 ^ 1000 ∧ Q (.bl (fewI i)) H) ∨ (∃ T, TyX K H v (.type T) ∧ kitB T "int" = some false ∧ Q (.bl false) H))
section
variable {P : Program} {w : World} {K : PySem.W.Frag} {mg : Str → Option Value} {base : Heap}
theorem c_has_few_digits {C_Group : Addr} {C_BadGroup : Addr} {C_BadLetter : Addr} {C_BadText : Addr} {C_FORMS : Addr} {C_CONSTANTS : Addr} (T : Txt K mg w C_Group C_BadGroup C_BadLetter C_BadText C_FORMS C_CONSTANTS) : Cal P w K mg base 1 "has_few_digits" (spFew K) [] := by
  refine cal T.d_has_few_digits sc_has_few_digits (fun vs H Q E h => ?_) (fun f cdv A outer s H vs Q E hr h => ?_)
  · obtain ⟨v, rfl, _⟩ := h; rfl
  obtain ⟨v, rfl, h⟩ := h
  refine ⟨_, (pss_cons (ps_if (PW.pt (pw_or (pt_not (pt_val (pe_callB (kisi (K := K)) (by rfl) T.z_isinstance (by decide +kernel) (pa_cons (pv 0) (pa_cons (pe_bltn (v := .ty "int") (by rfl) T.z_int (by decide +kernel) rfl) pa_nil))))) (pw_or1 (pt_cmpR op_gt (pe_bits (pv 0)) (pe_op op_mul pe_int (pe_gc (by rfl) T.c_MOST_DIGITS)) (nomark _))))) (pss_one (ps_ret pe_bl)) pss_nil)
      (pss_one (ps_ret (pe_cmpR op_le (pe_callB call_len_str (by rfl) T.z_len (by decide +kernel) (pa_cons (pe_callTy call_str_int (by rfl) T.z_str (by decide +kernel) (pa_cons (pe_callB call_abs (by rfl) T.z_abs (by decide +kernel) (pa_cons (pv 0) pa_nil)) pa_nil)) pa_nil)) (pe_gc (by rfl) T.c_MOST_DIGITS) (nomark _))))), ?_⟩
  rcases h with ⟨i, rfl, hi, q⟩ | ⟨T, ty, hk, q⟩
  · walk_at "rds"
    walk_at "isi"
    walk_at "rds"
    unfold fewI at q
    refine ite2 (fun e => ?_) (fun e => ?_)
    · have e : ((Builtin.Int.intBits i : Nat) : Int) > 240 := of_decide_eq_true e
      rw [decide_eq_false (by omega), Bool.false_and] at q
      walk_at "rds"
      exact q
    · have e : ¬ ((Builtin.Int.intBits i : Nat) : Int) > 240 := fun z => e (decide_eq_true z)
      rw [decide_eq_true (by omega), Bool.true_and] at q
      have eb : Builtin.Int.intBits i ≤ 240 := by omega
      have lg : (if i < 0 then -i else i).natAbs.log2 < 1920 := by
        have e1 : (if i < 0 then -i else i).natAbs = i.natAbs := by split <;> omega
        rw [e1]
        unfold Builtin.Int.intBits at eb
        split at eb
        · rename_i z
          rw [show i = 0 by simpa using z]; decide
        · omega
      walk_at "rds"
      refine ⟨lg, ?_⟩
      walk_at "rds"
      refine ⟨PySem.int_text_fits lg, ?_⟩
      walk_at "rds"
      exact q
  · walk_at "rds"
    refine ⟨_, .ty _, _, _, false, rfl, .ty _, ty, kit_ty hk, ?_⟩
    walk_at "rds"
    exact q
def spSg (K : PySem.W.Frag) (A : Option Addr) (B : Addr) : Sp := fun vs H Q E => ∃ (v : V) (d : PyData), vs = [v] ∧ Dt K H A v d ∧ isTup d = false ∧ (∀ i, d = .int i → i.natAbs < 2 ^ 1000) ∧ (∀ s, sgT d = some s → ∀ H', Same H H' → Q (.str s) H') ∧ (sgT d = none → ∀ H', Same H H' → E (.ref B) none H')
theorem c_single_text {C_Group : Addr} {C_BadGroup : Addr} {C_BadLetter : Addr} {C_BadText : Addr} {C_FORMS : Addr} {C_CONSTANTS : Addr} (T : Txt K mg w C_Group C_BadGroup C_BadLetter C_BadText C_FORMS C_CONSTANTS) (A : Option Addr) : CalX P w K mg base 4 "single_text" (spSg K A C_BadText) := by
  have c_has_few_digits := c_has_few_digits (P := P) (w := w) (base := base) T
  have c_is_printable := c_is_printable (P := P) (w := w) (base := base) T
  refine calX T.d_single_text sc_single_text (fun vs H Q E h => ?_) (fun f cdv A' outer s H vs Q E hr h => ?_)
  · obtain ⟨v, d, rfl, _⟩ := h; rfl
  obtain ⟨v, d, rfl, dv, nt, bi, q, qe⟩ := h
  refine ⟨_, (pss_cons (ps_if (pt_cmpR op_isN (pv 0) pe_non (nomark _)) (pss_one (ps_ret pe_str)) pss_nil)
      (pss_cons (ps_if (pt_cmpR op_isB (pv 0) pe_bl (nomark _)) (pss_one (ps_ret pe_str)) pss_nil)
      (pss_cons (ps_if (pt_cmpR op_isB (pv 0) pe_bl (nomark _)) (pss_one (ps_ret pe_str)) pss_nil)
      (pss_cons (ps_if (pt_val (pe_c c_has_few_digits hr (by omega) (by rfl) (pa_cons (pv 0) pa_nil))) (pss_one (ps_ret (pe_joined (PJ.cons pe_str (PJ.cons (pe_fmt (pv 0)) (PJ.cons pe_str PJ.nil)))))) pss_nil)
      (pss_cons (ps_if (pt_val (pe_c c_is_printable hr (by omega) (by rfl) (pa_cons (pv 0) pa_nil))) (pss_one (ps_ret (pe_joined (PJ.cons pe_str (PJ.cons (pe_fmt (pe_callB call_len_str (by rfl) T.z_len (by decide +kernel) (pa_cons (pv 0) pa_nil))) (PJ.cons pe_str (PJ.cons (pe_fmt (pv 0)) PJ.nil))))))) pss_nil)
      (pss_one (ps_raise rfl (takes_of rfl rfl rfl rfl) (pmk_ok T.x_BadText (by rfl))))))))), ?_⟩
  cases dv with
  | non =>
    have q := q _ rfl H (Same.refl H)
    walk_at "rds"
    refine ifT rfl ?_
    walk_at "rds"
    exact q
  | bl b =>
    walk_at "rds"
    cases b with
    | true =>
      have q := q _ rfl H (Same.refl H)
      refine ifT rfl ?_
      walk_at "rds"
      exact q
    | false =>
      have q := q _ rfl H (Same.refl H)
      refine ifF rfl ?_
      walk_at "rds"
      exact q
  | int i =>
    walk_at "rds"
    refine .inl ⟨i, rfl, bi i rfl, ?_⟩
    cases e : fewI i with
    | true =>
      walk_at "rds"
      have lg : i.natAbs.log2 < 1000 := log2_of_lt (by omega) (bi i rfl)
      have tl := itx_len (by omega) lg
      have lgB : i.natAbs.log2 < 1920 := by omega
      have sl := sizeLine_eq
      refine .inr ⟨i, rfl, lgB, ?_⟩
      walk_at "rds"
      refine ⟨by simp only [len_app2]; rw [sl]; have e1 : (Str.empty).length = 0 := rfl; have e2 : (Str.ofString "i").length = 1 := rfl; omega, ?_⟩
      walk_at "rds"
      have e1 : (Str.empty).length = 0 := rfl
      have e2 : (Str.ofString "i").length = 1 := rfl
      have e3 : (Str.ofString ";").length = 1 := rfl
      refine ⟨by simp only [len_app2]; omega, ?_⟩
      walk_at "rds"
      exact q _ (if_pos e) _ (Same.refl H)
    | false =>
      walk_at "rds"
      refine .inr ⟨⟨_, .base (.int i), by decide +kernel⟩, ?_⟩
      walk_at "rds"
      exact qe (by show (if fewI i = true then _ else _) = _; rw [if_neg (by rw [e]; decide)]) _ (Same.refl H)
  | str z hz =>
    walk_at "rds"
    refine .inr ⟨_, .base (.str z), by decide +kernel, ?_⟩
    walk_at "rds"
    refine .inl ⟨z, rfl, by omega, fun H' s' => ?_⟩
    cases e : isPr z with
    | true =>
      walk_at "rds"
      have lg : ((z.length : Int)).natAbs.log2 < 1000 := log2_of_lt (by omega) (by have : (2:Nat) ^ 20 ≤ 2 ^ 1000 := Nat.pow_le_pow_right (by omega) (by omega); have : (2:Nat) ^ 20 = 1048576 := rfl; omega)
      have tl := itx_len (by omega) lg
      have lgB : ((z.length : Int)).natAbs.log2 < 1920 := by omega
      have sl := sizeLine_eq
      have e1 : (Str.empty).length = 0 := rfl
      have e2 : (Str.ofString "s").length = 1 := rfl
      have e3 : (Str.ofString ":").length = 1 := rfl
      refine .inr ⟨_, rfl, lgB, ?_⟩
      walk_at "rds"
      refine ⟨by simp only [len_app2]; omega, ?_⟩
      walk_at "rds"
      refine ⟨by simp only [len_app2]; omega, ?_⟩
      walk_at "rds"
      refine .inl ⟨_, rfl, by omega, ?_⟩
      walk_at "rds"
      refine ⟨by simp only [len_app2]; omega, ?_⟩
      walk_at "rds"
      exact q _ (if_pos e) _ s'
    | false =>
      walk_at "rds"
      exact qe (by show (if isPr z = true then _ else _) = _; rw [if_neg (by rw [e]; decide)]) _ s'
  | lst ne ha hx =>
    walk_at "rds"
    refine .inr ⟨_, .base (.lst ha), by decide +kernel, ?_⟩
    walk_at "rds"
    refine .inr ⟨⟨_, .base (.lst ha), by decide +kernel⟩, ?_⟩
    walk_at "rds"
    exact qe rfl _ (Same.refl H)
  | tup ha hx => cases nt
/-! ### text_of, tuple_text -/
def spTx (K : PySem.W.Frag) (A : Option Addr) (B : Addr) (n : Nat) : Sp := fun vs H Q E => ∃ (v : V) (d : PyData) (room : Int), vs = [v, .int n, .int room] ∧ Dt K H A v d ∧ BigO d ∧ room ≤ 1000000 ∧ (∀ s, encT n room d = some s → ∀ H', Same H H' → Q (.str s) H') ∧ (encT n room d = none → ∀ H', Same H H' → E (.ref B) none H')
def spTT (K : PySem.W.Frag) (A : Option Addr) (B : Addr) (n : Nat) : Sp := fun vs H Q E => ∃ (v : V) (ds : List PyData) (room : Int), vs = [v, .int n, .int room] ∧ Dt K H A v (.tuple ds) ∧ ds.length ≤ 1000000 ∧ BigL ds ∧ room ≤ 1000000 ∧ (∀ s, rawT n room ds = some s → ∀ H', Same H H' → Q (.str s) H') ∧ (rawT n room ds = none → ∀ H', Same H H' → E (.ref B) none H')
def spTP (K : PySem.W.Frag) (A : Option Addr) (B : Addr) : Nat → Sp
  | 0 => fun _ _ _ _ => False
  | n + 1 => spTx K A B n
theorem c_text_of {C_Group : Addr} {C_BadGroup : Addr} {C_BadLetter : Addr} {C_BadText : Addr} {C_FORMS : Addr} {C_CONSTANTS : Addr} (T : Txt K mg w C_Group C_BadGroup C_BadLetter C_BadText C_FORMS C_CONSTANTS) (A : Option Addr) (n L : Nat) (hL : 4 ≤ L) (c_tuple_text : CalX P w K mg base L "tuple_text" (spTT K A C_BadText n)) : CalX P w K mg base (L + 1) "text_of" (spTx K A C_BadText n) := by
  have c_single_text := c_single_text (P := P) (w := w) (base := base) T A
  refine calX T.d_text_of sc_text_of (fun vs H Q E h => ?_) (fun f cdv A' outer s H vs Q E hr h => ?_)
  · obtain ⟨v, d, room, rfl, _⟩ := h; rfl
  obtain ⟨v, d, room, rfl, dv, bd, hroom, q, qe⟩ := h
  refine ⟨_, (pss_cut (ps_if (pt_val (pe_callB (kisi (K := K)) (by rfl) T.z_isinstance (by decide +kernel) (pa_cons (pv 0) (pa_cons (pe_bltn (v := .ty "tuple") (by rfl) T.z_tuple (by decide +kernel) rfl) pa_nil)))) (pss_one (ps_set (i := 3) sc_text_of.nd rfl (Or.inl rfl) (pe_cX c_tuple_text hr (by omega) (by rfl) (fun σ => passAt (takes_of rfl rfl rfl rfl) σ) (pa_cons (pv 0) (pa_cons (pv 1) (pa_cons (pv 2) pa_nil)))))) (pss_one (ps_set (i := 3) sc_text_of.nd rfl (Or.inl rfl) (pe_cX c_single_text hr (by omega) (by rfl) (fun σ => passAt (takes_of rfl rfl rfl rfl) σ) (pa_cons (pv 0) pa_nil)))))
      (pss_cons (ps_if (pt_cmpR op_gt (pe_callB call_len_str (by rfl) T.z_len (by decide +kernel) (pa_cons (pv 3) pa_nil)) (pv 2) (nomark _)) (pss_one (ps_raise rfl (takes_of rfl rfl rfl rfl) (pmk_ok T.x_BadText (by rfl)))) pss_nil)
      (pss_one (ps_ret (pv 3))))), ?_⟩
  have fitX : ∀ (x : Option Str), encT n room d = fit room x → (x = none → ∀ H', Same H H' → E (.ref C_BadText) none H') ∧ (∀ z, x = some z → (z.length : Int) > room → ∀ H', Same H H' → E (.ref C_BadText) none H') ∧ (∀ z, x = some z → ¬ (z.length : Int) > room → ∀ H', Same H H' → Q (.str z) H') := by
    intro x e
    refine ⟨fun ex => qe (by rw [e, ex]; rfl), fun z ex g => qe (by rw [e, ex]; exact if_pos g), fun z ex g => q z (by rw [e, ex]; exact if_neg g)⟩
  have sl := sizeLine_eq
  walk_at "rds"
  refine ⟨fun σ' H' => ∃ z : Str, σ' = [some v, some (.int n), some (.int room), some (.str z)] ∧ z.length ≤ 16000000 ∧ ((z.length : Int) > room → ∀ H2, Same H' H2 → E (.ref C_BadText) none H2) ∧ (¬ (z.length : Int) > room → ∀ H2, Same H' H2 → Q (.str z) H2), ?_, ?_⟩
  · cases ht : isTup d with
    | true =>
      cases d with
      | tuple ds =>
        have dv' := dv
        cases dv with
        | tup ha hx =>
          walk_at "rds"
          refine ⟨_, .ty _, _, _, true, rfl, .ty _, ha.ty, kit_ty (by decide +kernel), ?_⟩
          walk_at "rds"
          rw [BigO] at bd
          have e : encT n room (.tuple ds) = fit room (rawT n room ds) := by
            cases n with
            | zero => exact encT_zero room ds
            | succ n => exact encT_tup n room ds
          obtain ⟨f1, f2, f3⟩ := fitX _ e
          refine ⟨_, ds, room, rfl, dv', (Nat.le_trans bd.1 (by decide)), bd.2, hroom, fun z ez H1 s1 => ?_, fun ez => f1 ez⟩
          walk_at "rds"
          refine ⟨z, rfl, ?_, fun g H2 s2 => f2 z ez g _ (s1.trans s2), fun g H2 s2 => f3 z ez g _ (s1.trans s2)⟩
          exact rawT_len (Nat.le_trans bd.1 (by decide)) hroom ez
      | _ => cases ht
    | false =>
      obtain ⟨f1, f2, f3⟩ := fitX (sgT d) (encT_sg ht)
      obtain ⟨ty, hty, hk⟩ : ∃ T, TyX K H v (.type T) ∧ kitB T "tuple" = some false := by
        cases dv with
        | non => exact ⟨_, .base .non, by decide +kernel⟩
        | bl b => exact ⟨_, .base (.bl b), by decide +kernel⟩
        | int i => exact ⟨_, .base (.int i), by decide +kernel⟩
        | str z hz => exact ⟨_, .base (.str z), by decide +kernel⟩
        | lst ne ha hx => exact ⟨_, .base (.lst ha), by decide +kernel⟩
        | tup ha hx => cases ht
      walk_at "rds"
      refine ⟨_, .ty _, _, _, false, rfl, .ty _, hty, kit_ty hk, ?_⟩
      walk_at "rds"
      refine ⟨v, d, rfl, dv, ht, fun i e => by subst e; rw [BigO] at bd; exact bd, fun z ez H1 s1 => ?_, fun ez => f1 ez⟩
      walk_at "rds"
      refine ⟨z, rfl, sgT_len (fun y e => by subst e; cases dv with | str _ h => exact h) (fun i e => by subst e; rw [BigO] at bd; exact bd) ez, fun g H2 s2 => f2 z ez g _ (s1.trans s2), fun g H2 s2 => f3 z ez g _ (s1.trans s2)⟩
  · rintro σ' H' ⟨z, rfl, hz, e1, e2⟩
    walk_at "rds"
    refine ite2 (fun e => ?_) (fun e => ?_)
    · walk_at "rds"
      exact e1 (of_decide_eq_true e) _ (Same.refl _)
    · walk_at "rds"
      exact e2 (fun g => e (decide_eq_true g)) _ (Same.refl _)
theorem c_tuple_text {C_Group : Addr} {C_BadGroup : Addr} {C_BadLetter : Addr} {C_BadText : Addr} {C_FORMS : Addr} {C_CONSTANTS : Addr} (T : Txt K mg w C_Group C_BadGroup C_BadLetter C_BadText C_FORMS C_CONSTANTS) (A : Option Addr) (n L : Nat) (hL : 4 ≤ L) (c_text_of : CalX P w K mg base L "text_of" (spTP K A C_BadText n)) : CalX P w K mg base (L + 1) "tuple_text" (spTT K A C_BadText n) := by
  refine calX T.d_tuple_text sc_tuple_text (fun vs H Q E h => ?_) (fun f cdv A' outer s H vs Q E hr h => ?_)
  · obtain ⟨v, ds, room, rfl, _⟩ := h; rfl
  obtain ⟨v, ds, room, rfl, dv, hl, bd, hroom, q, qe⟩ := h
  have sl := sizeLine_eq
  refine ⟨_, (pss_cons (ps_if (pt_cmpR op_eq (pv 1) pe_int (nomark _)) (pss_one (ps_raise rfl (takes_of rfl rfl rfl rfl) (pmk_ok T.x_BadText (by rfl)))) pss_nil)
      (pss_cons (ps_set (i := 3) sc_tuple_text.nd rfl (Or.inl rfl) (pe_lst (pa_cons (pe_joined (PJ.cons pe_str (PJ.cons (pe_fmt (pe_callB (klen (K := K)) (by rfl) T.z_len (by decide +kernel) (pa_cons (pv 0) pa_nil))) (PJ.cons pe_str PJ.nil)))) pa_nil)))
      (pss_cons (ps_set (i := 2) sc_tuple_text.nd rfl (Or.inl rfl) (pe_op op_sub (pv 2) (pe_callB call_len_str (by rfl) T.z_len (by decide +kernel) (pa_cons (pe_ix (kixl (K := K)) (pv 3) pe_int (fun _ _ => rfl)) pa_nil))))
      (pss_cons (ps_for (passes_of rfl) rfl (pi_tup (pv 0)) (pg_name (i := 4) sc_tuple_text.nd rfl (Or.inl rfl)) (pss_cons (ps_set (i := 5) sc_tuple_text.nd rfl (Or.inl rfl) (pe_cX c_text_of hr (by omega) (by rfl) (fun σ => passAt (takes_of rfl rfl rfl rfl) σ) (pa_cons (pv 4) (pa_cons (pe_op op_sub (pv 1) pe_int) (pa_cons (pv 2) pa_nil)))))
      (pss_cons (ps_expr (pe_bm PySem.F.plainAttrs_list PySem.F.slot_list_append PySem.F.type_list_append mt_append (pv 3) (pa_cons (pv 5) pa_nil)))
      (pss_one (ps_set (i := 2) sc_tuple_text.nd rfl (Or.inl rfl) (pe_op op_sub (pv 2) (pe_callB call_len_str (by rfl) T.z_len (by decide +kernel) (pa_cons (pv 5) pa_nil))))))))
      (pss_one (ps_ret (pe_join pe_str (pv 3)))))))), ?_⟩
  walk_at "rds"
  cases n with
  | zero =>
    refine ifT rfl ?_
    walk_at "rds"
    exact qe rfl _ (Same.refl _)
  | succ n =>
    refine ifF rfl ?_
    cases dv with
    | tup ha hx =>
      rename_i a xs
      have lxs : xs.length = ds.length := hx.length
      walk_at "rds"
      refine ⟨a, xs, rfl, .inr ha.sq, ?_⟩
      walk_at "rds"
      have lg : ((xs.length : Int)).natAbs.log2 < 1000 := log2_of_lt (by omega) (by have : (2:Nat) ^ 20 ≤ 2 ^ 1000 := Nat.pow_le_pow_right (by omega) (by omega); have : (2:Nat) ^ 20 = 1048576 := rfl; omega)
      have tl := itx_len (by omega) lg
      have e1 : (Str.empty).length = 0 := rfl
      have e2 : (Str.ofString "t").length = 1 := rfl
      have e3 : (Str.ofString ":").length = 1 := rfl
      refine .inr ⟨_, rfl, by omega, ?_⟩
      walk_at "rds"
      refine ⟨by simp only [len_app2]; omega, ?_⟩
      walk_at "rds"
      refine ⟨by simp only [len_app2]; omega, ?_⟩
      walk_at "rds"
      intro L hL'
      have hh := hdr_len hl
      have eh : Str.empty ++ Str.ofString "t" ++ Str.ofString (toString (xs.length : Int)) ++ Str.ofString ":" = hdr ds.length := by rw [lxs]; rfl
      rw [eh]
      clear eh
      have s1 : Same H (upd H L (.lst [V.str (hdr ds.length)])) := same_upd hL'
      have eL : upd H L (.lst [V.str (hdr ds.length)]) L = some (.lst [V.str (hdr ds.length)]) := upd_same
      generalize upd H L (.lst [V.str (hdr ds.length)]) = G at s1 eL
      walk_at "rds"
      refine ⟨L, _, 0, _, rfl, rfl, sq eL, atI_nat (j := 0) rfl, ?_⟩
      walk_at "rds"
      refine ⟨⟨xs, (ha.same s1).sq⟩, ?_⟩
      refine for_it (walk_tup (K := K) (a := a) (xs := xs)) (Pv := fun i σ H' => ∃ (ys : List Str) (rm : Int) (y4 y5 : Option V), σ = [some (.ref a), some (.int ((n + 1 : Nat) : Int)), some (.int rm), some (.ref L), y4, y5] ∧ Same H H' ∧ H' L = some (.lst (ys.map V.str)) ∧ ys.length = i + 1 ∧ rawT (n + 1) room ds = encL n rm (jn ys) (ds.drop i) ∧ (jn ys).length + rm.toNat ≤ 2000000 ∧ rm ≤ 1000000)
        ⟨[hdr ds.length], room - (hdr ds.length).length, none, none, rfl, s1, eL, rfl, by rw [jn_one]; rfl, by rw [jn_one]; omega, by omega⟩ (fun i σ H' _ h => ?_) (fun i x σ H1 H2 hi hp hy => ?_) (fun σ H' hp => ?_)
      · obtain ⟨_, _, _, _, _, s2, _⟩ := h
        exact (ha.same s2).sq
      · obtain ⟨ys, rm, y4, y5, rfl, s2, eL2, ly, er, szj, hrm⟩ := hp
        obtain ⟨rfl, gx⟩ := hy
        obtain ⟨d, gd, hdx⟩ := (hx.on s2).get gx
        have hid : i < ds.length := (List.getElem?_eq_some_iff.mp gd).1
        have dd : ds.drop i = d :: ds.drop (i + 1) := by rw [List.drop_eq_getElem_cons hid]; rw [List.getElem?_eq_getElem hid] at gd; cases gd; rfl
        rw [dd, encL_cons] at er
        walk_at "rds"
        refine ⟨x, d, rm, congrArg (fun z => [x, V.int z, V.int rm]) (show ((n + 1 : Nat) : Int) - 1 = (n : Int) by omega), hdx, bd.get gd, hrm, fun z ez H3 s3 => ?_, fun ez H3 s3 => qe (by rw [er, ez]) _ (s2.trans s3)⟩
        rw [ez] at er
        have fz := encT_fit ez
        have eL3 := s3 _ _ eL2
        have s4 := s2.trans s3
        walk_at "rds"
        refine ⟨.inl ⟨rfl, _, sq eL3⟩, ?_⟩
        walk_at "rds"
        refine ⟨L, _, _, rfl, rfl, eL3, by rw [List.length_map]; omega, ?_⟩
        have s5 : Same H (upd H3 L (.lst (ys.map V.str ++ [.str z]))) := same_mut s4 hL'
        have eL5 : upd H3 L (.lst (ys.map V.str ++ [.str z])) L = some (.lst (ys.map V.str ++ [.str z])) := upd_same
        generalize upd H3 L (.lst (ys.map V.str ++ [.str z])) = H5 at s5 eL5
        walk_at "rds"
        refine ⟨ys ++ [z], _, _, _, rfl, s5, by rw [List.map_append]; exact eL5, by rw [List.length_append, ly]; rfl, by rw [er, jn_snoc], by rw [jn_snoc, len_app2]; omega, by omega⟩
      · obtain ⟨ys, rm, y4, y5, rfl, s2, eL2, ly, er, szj, hrm⟩ := hp
        rw [lxs, List.drop_length, encL] at er
        walk_at "rds"
        refine ⟨_, L, ys, rfl, rfl, .inl (sq eL2), ?_, q _ er _ s2⟩
        rw [← jn_len, show (Str.ofString "").length = 0 from rfl]
        omega
end

/-! ### encode, text_length -/
def spEnc (K : PySem.W.Frag) (A : Option Addr) (B : Addr) : Sp := fun vs H Q E => ∃ (v : V) (d : PyData), vs = [v] ∧ Dt K H A v d ∧ BigO d ∧ (∀ s, encT 12 100000 d = some s → ∀ H', Same H H' → Q (.str s) H') ∧ (encT 12 100000 d = none → ∀ H', Same H H' → E (.ref B) none H')
def spLen (K : PySem.W.Frag) (A : Option Addr) (B : Addr) : Sp := fun vs H Q E => ∃ (v : V) (d : PyData), vs = [v] ∧ Dt K H A v d ∧ BigO d ∧ (∀ s, encT 12 100000 d = some s → ∀ H', Same H H' → Q (.int s.length) H') ∧ (encT 12 100000 d = none → ∀ H', Same H H' → E (.ref B) none H')
section
variable {P : Program} {w : World} {K : PySem.W.Frag} {mg : Str → Option Value} {base : Heap}
theorem c_text_none {C_Group : Addr} {C_BadGroup : Addr} {C_BadLetter : Addr} {C_BadText : Addr} {C_FORMS : Addr} {C_CONSTANTS : Addr} (T : Txt K mg w C_Group C_BadGroup C_BadLetter C_BadText C_FORMS C_CONSTANTS) : CalX P w K mg base 4 "text_of" (fun _ _ _ _ => False) :=
  calX T.d_text_of sc_text_of (fun vs H Q E h => h.elim) (fun f cdv A' outer s H vs Q E hr h => h.elim)
theorem c_texts {C_Group : Addr} {C_BadGroup : Addr} {C_BadLetter : Addr} {C_BadText : Addr} {C_FORMS : Addr} {C_CONSTANTS : Addr} (T : Txt K mg w C_Group C_BadGroup C_BadLetter C_BadText C_FORMS C_CONSTANTS) (A : Option Addr) : ∀ n : Nat, CalX P w K mg base (2 * n + 5) "tuple_text" (spTT K A C_BadText n) ∧ CalX P w K mg base (2 * n + 6) "text_of" (spTx K A C_BadText n)
  | 0 => by
    have h := c_tuple_text (P := P) (w := w) (base := base) T A 0 4 (by omega) (c_text_none T)
    exact ⟨h, c_text_of T A 0 5 (by omega) h⟩
  | n + 1 => by
    have ih := (c_texts T A n).2
    have h := c_tuple_text (P := P) (w := w) (base := base) T A (n + 1) (2 * n + 6) (by omega) ih
    exact ⟨h, c_text_of T A (n + 1) (2 * n + 7) (by omega) h⟩
theorem c_encode {C_Group : Addr} {C_BadGroup : Addr} {C_BadLetter : Addr} {C_BadText : Addr} {C_FORMS : Addr} {C_CONSTANTS : Addr} (T : Txt K mg w C_Group C_BadGroup C_BadLetter C_BadText C_FORMS C_CONSTANTS) (A : Option Addr) : CalX P w K mg base 31 "encode" (spEnc K A C_BadText) := by
  have c_text_of := (c_texts (P := P) (w := w) (base := base) T A 12).2
  refine calX T.d_encode sc_encode (fun vs H Q E h => ?_) (fun f cdv A' outer s H vs Q E hr h => ?_)
  · obtain ⟨v, d, rfl, _⟩ := h; rfl
  obtain ⟨v, d, rfl, dv, bd, q, qe⟩ := h
  refine ⟨_, (pss_one (ps_ret (pe_cX c_text_of hr (by omega) (by rfl) (fun σ => passAt (takes_of rfl rfl rfl rfl) σ) (pa_cons (pv 0) (pa_cons (pe_gc (by rfl) T.c_MOST_DEPTH) (pa_cons (pe_gc (by rfl) T.c_MOST_LENGTH) pa_nil)))))), ?_⟩
  walk_at "rds"
  exact ⟨v, d, 100000, rfl, dv, bd, by decide, q, qe⟩
end

/-! ### the whole text, the depth -/
mutual
def txD : PyData → Str
  | .tuple ds => txA (hdr ds.length) ds
  | d => (sgT d).getD Str.empty
def txA : Str → List PyData → Str
  | acc, [] => acc
  | acc, d :: r => txA (acc ++ txD d) r
end
mutual
def dpD : PyData → Nat
  | .tuple ds => dpL ds + 1
  | _ => 0
def dpL : List PyData → Nat
  | [] => 0
  | d :: r => max (dpD d) (dpL r)
end
mutual
def OkD : PyData → Prop
  | .tuple ds => OkL ds
  | d => (sgT d).isSome = true
def OkL : List PyData → Prop
  | [] => True
  | d :: r => OkD d ∧ OkL r
end
theorem txD_sg {d : PyData} (h : isTup d = false) : txD d = (sgT d).getD Str.empty := by
  cases d with
  | tuple ds => cases h
  | _ => rw [txD]; all_goals exact fun _ z => nomatch z
theorem dpD_sg {d : PyData} (h : isTup d = false) : dpD d = 0 := by
  cases d with
  | tuple ds => cases h
  | _ => rw [dpD]; all_goals exact fun _ z => nomatch z
theorem OkD_sg {d : PyData} (h : isTup d = false) : OkD d = ((sgT d).isSome = true) := by
  cases d with
  | tuple ds => cases h
  | _ => rw [OkD]; all_goals exact fun _ z => nomatch z
theorem fit_some {room : Int} {x : Option Str} {z : Str} (h : fit room x = some z) : x = some z := by
  cases x with
  | none => cases h
  | some y =>
    by_cases g : (y.length : Int) > room
    · rw [show fit room (some y) = none from if_pos g] at h; cases h
    · rw [show fit room (some y) = some y from if_neg g] at h; exact h
theorem fit_ok {room : Int} {z : Str} (h : (z.length : Int) ≤ room) : fit room (some z) = some z := if_neg (by omega)
mutual
theorem encT_inv : ∀ (d : PyData) (k : Nat) (room : Int) (z : Str), encT k room d = some z → OkD d ∧ dpD d ≤ k ∧ z = txD d
  | .tuple ds, k, room, z, h => by
    cases k with
    | zero => rw [encT_zero] at h; cases h
    | succ k =>
      rw [encT_tup] at h
      obtain ⟨a, b, c⟩ := encL_inv ds k _ _ z (fit_some h)
      exact ⟨by rw [OkD]; exact a, by rw [dpD]; omega, by rw [txD]; exact c⟩
  | .none, k, room, z, h => by rw [encT_sg rfl] at h; have h := fit_some h; exact ⟨by rw [OkD_sg rfl, h]; rfl, by rw [dpD_sg rfl]; omega, by rw [txD_sg rfl, h]; rfl⟩
  | .bool b, k, room, z, h => by rw [encT_sg rfl] at h; have h := fit_some h; exact ⟨by rw [OkD_sg rfl, h]; rfl, by rw [dpD_sg rfl]; omega, by rw [txD_sg rfl, h]; rfl⟩
  | .int i, k, room, z, h => by rw [encT_sg rfl] at h; have h := fit_some h; exact ⟨by rw [OkD_sg rfl, h]; rfl, by rw [dpD_sg rfl]; omega, by rw [txD_sg rfl, h]; rfl⟩
  | .str y, k, room, z, h => by rw [encT_sg rfl] at h; have h := fit_some h; exact ⟨by rw [OkD_sg rfl, h]; rfl, by rw [dpD_sg rfl]; omega, by rw [txD_sg rfl, h]; rfl⟩
  | .list ds, k, room, z, h => by rw [encT_sg rfl] at h; have h := fit_some h; exact ⟨by rw [OkD_sg rfl, h]; rfl, by rw [dpD_sg rfl]; omega, by rw [txD_sg rfl, h]; rfl⟩
  | .dict ds, k, room, z, h => by rw [encT_sg rfl] at h; have h := fit_some h; exact ⟨by rw [OkD_sg rfl, h]; rfl, by rw [dpD_sg rfl]; omega, by rw [txD_sg rfl, h]; rfl⟩
theorem encL_inv : ∀ (ds : List PyData) (k : Nat) (room : Int) (acc z : Str), encL k room acc ds = some z → OkL ds ∧ dpL ds ≤ k ∧ z = txA acc ds
  | [], k, room, acc, z, h => by rw [encL] at h; cases h; exact ⟨by rw [OkL]; trivial, by rw [dpL]; omega, by rw [txA]⟩
  | d :: r, k, room, acc, z, h => by
    rw [encL_cons] at h
    cases e : encT k room d with
    | none => rw [e] at h; cases h
    | some y =>
      rw [e] at h
      obtain ⟨a1, b1, c1⟩ := encT_inv d k room y e
      obtain ⟨a2, b2, c2⟩ := encL_inv r k _ _ z h
      exact ⟨by rw [OkL]; exact ⟨a1, a2⟩, by rw [dpL]; omega, by rw [txA, ← c1]; exact c2⟩
end
theorem txA_ge : ∀ (ds : List PyData) (acc : Str), acc.length ≤ (txA acc ds).length
  | [], acc => by rw [txA]; omega
  | d :: r, acc => by
    rw [txA]
    have := txA_ge r (acc ++ txD d)
    rw [len_app2] at this; omega
mutual
theorem encT_ok : ∀ (d : PyData) (k : Nat) (room : Int), OkD d → dpD d ≤ k → ((txD d).length : Int) ≤ room → encT k room d = some (txD d)
  | .tuple ds, k, room, h1, h2, h3 => by
    rw [OkD] at h1; rw [dpD] at h2
    cases k with
    | zero => omega
    | succ k =>
      rw [txD] at h3 ⊢
      rw [encT_tup, encL_ok ds k _ _ h1 (by omega) (by omega)]
      exact fit_ok h3
  | .none, k, room, h1, h2, h3 => by rw [txD_sg rfl] at h3 ⊢; rw [OkD_sg rfl] at h1; rw [encT_sg rfl]; obtain ⟨z, e⟩ := Option.isSome_iff_exists.mp h1; rw [e] at h3 ⊢; exact fit_ok h3
  | .bool b, k, room, h1, h2, h3 => by rw [txD_sg rfl] at h3 ⊢; rw [OkD_sg rfl] at h1; rw [encT_sg rfl]; obtain ⟨z, e⟩ := Option.isSome_iff_exists.mp h1; rw [e] at h3 ⊢; exact fit_ok h3
  | .int i, k, room, h1, h2, h3 => by rw [txD_sg rfl] at h3 ⊢; rw [OkD_sg rfl] at h1; rw [encT_sg rfl]; obtain ⟨z, e⟩ := Option.isSome_iff_exists.mp h1; rw [e] at h3 ⊢; exact fit_ok h3
  | .str y, k, room, h1, h2, h3 => by rw [txD_sg rfl] at h3 ⊢; rw [OkD_sg rfl] at h1; rw [encT_sg rfl]; obtain ⟨z, e⟩ := Option.isSome_iff_exists.mp h1; rw [e] at h3 ⊢; exact fit_ok h3
  | .list ds, k, room, h1, h2, h3 => by rw [txD_sg rfl] at h3 ⊢; rw [OkD_sg rfl] at h1; rw [encT_sg rfl]; obtain ⟨z, e⟩ := Option.isSome_iff_exists.mp h1; rw [e] at h3 ⊢; exact fit_ok h3
  | .dict ds, k, room, h1, h2, h3 => by rw [txD_sg rfl] at h3 ⊢; rw [OkD_sg rfl] at h1; rw [encT_sg rfl]; obtain ⟨z, e⟩ := Option.isSome_iff_exists.mp h1; rw [e] at h3 ⊢; exact fit_ok h3
theorem encL_ok : ∀ (ds : List PyData) (k : Nat) (room : Int) (acc : Str), OkL ds → dpL ds ≤ k → ((txA acc ds).length : Int) - acc.length ≤ room → encL k room acc ds = some (txA acc ds)
  | [], k, room, acc, _, _, _ => by rw [encL, txA]
  | d :: r, k, room, acc, h1, h2, h3 => by
    rw [OkL] at h1; rw [dpL] at h2; rw [txA] at h3
    have g := txA_ge r (acc ++ txD d)
    rw [len_app2] at g
    rw [encL_cons, encT_ok d k room h1.1 (by omega) (by omega)]
    show encL k (room - (txD d).length) (acc ++ txD d) r = _
    rw [txA]
    exact encL_ok r k _ _ h1.2 (by omega) (by rw [len_app2]; omega)
end
theorem encT_bad {d : PyData} {k : Nat} {room : Int} (h : ¬ (OkD d ∧ dpD d ≤ k ∧ ((txD d).length : Int) ≤ room)) : encT k room d = none := by
  cases e : encT k room d with
  | none => rfl
  | some z =>
    obtain ⟨a, b, c⟩ := encT_inv d k room z e
    have f := encT_fit e
    rw [c] at f
    exact absurd ⟨a, b, f⟩ h
/-! ### the law's values, without Python -/
def LV : Nat → Nat
  | 0 => 95
  | k + 1 => 3 + 3 * LV k
theorem LV_ge : ∀ k, 95 ≤ LV k
  | 0 => Nat.le_refl _
  | k + 1 => by have := LV_ge k; rw [LV]; omega
structure GoodV (k : Nat) (d : PyData) : Prop where
  ok : OkD d
  dp : dpD d ≤ k
  big : BigO d
  len : (txD d).length ≤ LV k
structure GoodL (k : Nat) (ds : List PyData) : Prop where
  ok : OkL ds
  dp : dpL ds ≤ k
  big : BigL ds
  len : ∀ acc, (txA acc ds).length ≤ acc.length + ds.length * LV k
mutual
theorem OkD.noL : ∀ {d : PyData}, OkD d → noL d = true
  | .tuple ds, h => by rw [OkD] at h; exact OkL.noL h
  | .none, _ => rfl
  | .bool _, _ => rfl
  | .int _, _ => rfl
  | .str _, _ => rfl
  | .list _, h => by rw [OkD_sg rfl] at h; cases h
  | .dict _, _ => rfl
theorem OkL.noL : ∀ {ds : List PyData}, OkL ds → noLs ds = true
  | [], _ => rfl
  | d :: r, h => by rw [OkL] at h; show (Law.noL d && noLs r) = true; rw [OkD.noL h.1, OkL.noL h.2]; rfl
end
theorem OkL_app : ∀ {a b : List PyData}, OkL (a ++ b) ↔ OkL a ∧ OkL b
  | [], b => by rw [OkL]; simp
  | d :: r, b => by rw [List.cons_append, OkL, OkL, OkL_app, and_assoc]
theorem BigL_app : ∀ {a b : List PyData}, BigL (a ++ b) ↔ BigL a ∧ BigL b
  | [], b => by rw [show BigL [] = True from by rw [BigL]]; simp
  | d :: r, b => by rw [List.cons_append, BigL, BigL, BigL_app, and_assoc]
theorem dpL_app : ∀ {a b : List PyData}, dpL (a ++ b) = max (dpL a) (dpL b)
  | [], b => by rw [show dpL [] = 0 from by rw [dpL]]; simp
  | d :: r, b => by rw [List.cons_append, dpL, dpL, dpL_app]; omega
theorem txA_app : ∀ {a b : List PyData} (acc : Str), txA acc (a ++ b) = txA (txA acc a) b
  | [], b, acc => by rw [show txA acc [] = acc from by rw [txA]]; rfl
  | d :: r, b, acc => by rw [List.cons_append, txA, txA, txA_app]
theorem GoodL.nil {k : Nat} : GoodL k [] := ⟨by rw [OkL]; trivial, by rw [dpL]; omega, by rw [BigL]; trivial, fun acc => by rw [txA]; omega⟩
theorem GoodL.snoc {k : Nat} {ds : List PyData} {d : PyData} (h : GoodL k ds) (hd : GoodV k d) : GoodL k (ds ++ [d]) := by
  refine ⟨OkL_app.mpr ⟨h.ok, by rw [OkL, OkL]; exact ⟨hd.ok, trivial⟩⟩, ?_, BigL_app.mpr ⟨h.big, by rw [BigL, BigL]; exact ⟨hd.big, trivial⟩⟩, fun acc => ?_⟩
  · rw [dpL_app, dpL, dpL]; have := h.dp; have := hd.dp; omega
  · rw [txA_app, txA, txA, len_app2, List.length_append, List.length_singleton, Nat.add_mul]
    have := h.len acc; have := hd.len; omega
theorem hdr_small {n : Nat} (h : n ≤ 9) : (hdr n).length = 3 := by
  have key : ∀ n : Fin 10, (hdr n.val).length = 3 := by decide +kernel
  exact key ⟨n, by omega⟩
theorem GoodL.tup {k : Nat} {ds : List PyData} (h : GoodL k ds) (hl : ds.length ≤ 3) : GoodV (k + 1) (.tuple ds) := by
  refine ⟨by rw [OkD]; exact h.ok, by rw [dpD]; have := h.dp; omega, by rw [BigO]; exact ⟨by omega, h.big⟩, ?_⟩
  rw [txD, LV]
  have := h.len (hdr ds.length)
  rw [hdr_small (by omega)] at this
  have := Nat.mul_le_mul_right (LV k) hl
  omega
theorem abs_nat (i : Int) : (if i < 0 then -i else i) = ((i.natAbs : Nat) : Int) := by split <;> omega
theorem dig60 {i : Int} : ((Str.ofString (toString (if i < 0 then -i else i))).length ≤ 60) ↔ i.natAbs < 10 ^ 60 := by
  rw [abs_nat, PySem.ofString_length]
  exact Nat.length_repr_le_iff (by decide)
theorem few_yes {i : Int} (h : i.natAbs < 10 ^ 60) : fewI i = true := by
  unfold fewI
  have e : Builtin.Int.intBits i ≤ 240 := by
    unfold Builtin.Int.intBits
    split
    · omega
    · have := log2_of_lt (n := i.natAbs) (k := 200) (by omega) (Nat.lt_of_lt_of_le h (by decide))
      omega
  have := dig60.mpr h
  rw [decide_eq_true (by omega), decide_eq_true (by omega)]; rfl
theorem few_no {i : Int} (h : 10 ^ 60 ≤ i.natAbs) : fewI i = false := by
  unfold fewI
  have : ¬ ((Str.ofString (toString (if i < 0 then -i else i))).length ≤ 60) := fun z => by have := dig60.mp z; omega
  rw [decide_eq_false (p := ((_ : Nat) : Int) ≤ 60) (by omega), Bool.and_false]
theorem good_non {k : Nat} : GoodV k .none := ⟨by rw [OkD_sg rfl]; rfl, by rw [dpD_sg rfl]; omega, by rw [BigO] <;> simp, by rw [txD_sg rfl]; have := LV_ge k; exact Nat.le_trans (by decide) this⟩
theorem good_bl {k : Nat} (b : Bool) : GoodV k (.bool b) := ⟨by rw [OkD_sg rfl]; cases b <;> rfl, by rw [dpD_sg rfl]; omega, by rw [BigO] <;> simp, by rw [txD_sg rfl]; have := LV_ge k; exact Nat.le_trans (by cases b <;> decide) this⟩
theorem sgT_int {i : Int} (h : fewI i = true) : sgT (.int i) = some (((Str.empty ++ "i") ++ Str.ofString (toString i)) ++ ";") := if_pos h
theorem sgT_str {z : Str} (h : isPr z = true) : sgT (.str z) = some ((((Str.empty ++ "s") ++ Str.ofString (toString (z.length : Int))) ++ ":") ++ z) := if_pos h
theorem good_int {k : Nat} {i : Int} (h : i.natAbs < 10 ^ 60) : GoodV k (.int i) := by
  have f := few_yes h
  refine ⟨by rw [OkD_sg rfl, sgT_int f]; rfl, by rw [dpD_sg rfl]; omega, by rw [BigO]; exact Nat.lt_of_lt_of_le h (by decide +kernel), ?_⟩
  rw [txD_sg rfl, sgT_int f]
  have := LV_ge k
  have l := int_text_length_le10 (a := i) (k := 60) (by decide) h
  rw [← PySem.ofString_length] at l
  have e1 : (Str.empty).length = 0 := rfl
  have e2 : (Str.ofString "i").length = 1 := rfl
  have e3 : (Str.ofString ";").length = 1 := rfl
  show (((Str.empty ++ Str.ofString "i") ++ Str.ofString (toString i)) ++ Str.ofString ";").length ≤ _
  simp only [len_app2]; omega
theorem good_str {k : Nat} {z : Str} (h : isPr z = true) (hz : z.length ≤ 90) : GoodV k (.str z) := by
  refine ⟨by rw [OkD_sg rfl, sgT_str h]; rfl, by rw [dpD_sg rfl]; omega, by rw [BigO] <;> simp, ?_⟩
  rw [txD_sg rfl, sgT_str h]
  have := LV_ge k
  have l := int_text_length_le10 (a := (z.length : Int)) (k := 2) (by decide) (by omega)
  rw [← PySem.ofString_length] at l
  have e1 : (Str.empty).length = 0 := rfl
  have e2 : (Str.ofString "s").length = 1 := rfl
  have e3 : (Str.ofString ":").length = 1 := rfl
  show ((((Str.empty ++ Str.ofString "s") ++ Str.ofString (toString (z.length : Int))) ++ Str.ofString ":") ++ z).length ≤ _
  simp only [len_app2]; omega
theorem OkL.mem : ∀ {ds : List PyData}, OkL ds → ∀ d ∈ ds, OkD d
  | _ :: _, h, _, .head _ => by rw [OkL] at h; exact h.1
  | _ :: _, h, _, .tail _ m => by rw [OkL] at h; exact OkL.mem h.2 _ m
theorem dpL_mem : ∀ {ds : List PyData}, ∀ d ∈ ds, dpD d ≤ dpL ds
  | _ :: _, _, .head _ => by rw [dpL]; omega
  | _ :: _, _, .tail _ m => by rw [dpL]; have := dpL_mem _ m; omega
theorem txA_snoc {acc : Str} {ds : List PyData} {i : Nat} {d : PyData} (g : ds[i]? = some d) : txA acc (ds.take (i + 1)) = txA acc (ds.take i) ++ txD d ∧ (txA acc (ds.take i)).length + (txD d).length ≤ (txA acc ds).length := by
  have e : txA acc (ds.take (i + 1)) = txA acc (ds.take i) ++ txD d := by
    rw [List.take_add_one, g, txA_app]
    show txA _ [d] = _
    rw [txA, txA]
  refine ⟨e, ?_⟩
  have h := txA_ge (ds.drop (i + 1)) (txA acc (ds.take (i + 1)))
  rw [← txA_app, List.take_append_drop, e, len_app2] at h
  exact h
theorem hdr_eq (n : Nat) : hdr n = (Str.ofString "t" ++ Str.ofString (toString (n : Int))) ++ Str.ofString ":" := by
  show ((Str.empty ++ Str.ofString "t") ++ _) ++ _ = _
  rw [PySem.Str.empty_append]
theorem txD_int {i : Int} (h : OkD (.int i)) : txD (.int i) = (Str.ofString "i" ++ Str.ofString (toString i)) ++ Str.ofString ";" := by
  rw [OkD_sg rfl] at h
  rw [txD_sg rfl]
  cases e : fewI i with
  | false => rw [show sgT (.int i) = none from if_neg (by rw [e]; decide)] at h; cases h
  | true =>
    rw [sgT_int e]
    show (((Str.empty ++ Str.ofString "i") ++ _) ++ _) = _
    rw [PySem.Str.empty_append]
theorem txD_str {z : Str} (h : OkD (.str z)) : txD (.str z) = ((Str.ofString "s" ++ Str.ofString (toString (z.length : Int))) ++ Str.ofString ":") ++ z := by
  rw [OkD_sg rfl] at h
  rw [txD_sg rfl]
  cases e : isPr z with
  | false => rw [show sgT (.str z) = none from if_neg (by rw [e]; decide)] at h; cases h
  | true =>
    rw [sgT_str e]
    show ((((Str.empty ++ Str.ofString "s") ++ _) ++ _) ++ _) = _
    rw [PySem.Str.empty_append]
theorem nat_log {n : Nat} (h : n ≤ 16000000) : ((n : Int)).natAbs.log2 < 1000 := log2_of_lt (by omega) (by have : (2:Nat) ^ 30 ≤ 2 ^ 1000 := Nat.pow_le_pow_right (by omega) (by omega); have : (2:Nat) ^ 30 = 1073741824 := rfl; omega)
theorem dpL_snoc {ds : List PyData} {i : Nat} {d : PyData} (g : ds[i]? = some d) : dpL (ds.take (i + 1)) = max (dpL (ds.take i)) (dpD d) := by
  rw [List.take_add_one, g, dpL_app]
  show max _ (dpL [d]) = _
  rw [dpL, dpL]; omega
def nestD : Nat → PyData → PyData
  | 0, d => d
  | n + 1, d => .tuple [nestD n d]
theorem nestD_ok {d : PyData} (h : OkD d) : ∀ n, OkD (nestD n d)
  | 0 => h
  | n + 1 => by rw [nestD, OkD, OkL, OkL]; exact ⟨nestD_ok h n, trivial⟩
theorem nestD_dp {d : PyData} : ∀ n, dpD (nestD n d) = dpD d + n
  | 0 => rfl
  | n + 1 => by rw [nestD, dpD, dpL, dpL, nestD_dp n]; omega
theorem nestD_big {d : PyData} (h : BigO d) : ∀ n, BigO (nestD n d)
  | 0 => h
  | n + 1 => by rw [nestD, BigO, BigL, BigL]; exact ⟨by simp, nestD_big h n, trivial⟩
theorem nestD_len {d : PyData} : ∀ n, (txD (nestD n d)).length = (txD d).length + 3 * n
  | 0 => rfl
  | n + 1 => by rw [nestD, txD, txA, txA, len_app2, nestD_len n, hdr_small (by simp)]; omega
theorem noLs_mem : ∀ {ds : List PyData} {d : PyData}, noLs ds = true → d ∈ ds → noL d = true
  | e :: r, d, h, m => by
    have h : (noL e && noLs r) = true := h
    rw [Bool.and_eq_true] at h
    rcases List.mem_cons.mp m with rfl | m
    · exact h.1
    · exact noLs_mem h.2 m
theorem bad_mid {a : List PyData} {d : PyData} {b : List PyData} (h : ¬ OkD d) : ¬ OkD (.tuple ((a ++ [d]) ++ b)) := by
  rw [OkD, OkL_app, OkL_app, OkL]
  exact fun z => h z.1.2.1
theorem big_mid {a : List PyData} {d : PyData} {b : List PyData} (ha : BigL a) (hd : BigO d) (hb : BigL b) (hl : a.length + b.length < 10000) : BigO (.tuple ((a ++ [d]) ++ b)) := by
  rw [BigO, BigL_app, BigL_app, BigL, BigL]
  exact ⟨by rw [List.length_append, List.length_append, List.length_singleton]; omega, ⟨ha, hd, trivial⟩, hb⟩
theorem big_cut {ds : List PyData} (h : BigL ds) (i j : Nat) : BigL (ds.take i) ∧ BigL (ds.drop j) :=
  ⟨(BigL_app (b := ds.drop i).mp (by rw [List.take_append_drop]; exact h)).1, (BigL_app (a := ds.take j).mp (by rw [List.take_append_drop]; exact h)).2⟩

/-! ### is_decimal -/
def dg (c : Nat) : Bool := decide (48 ≤ c) && decide (c ≤ 57)
/-- a number in decimal digits, by its codes -/
def dcL (l : List Nat) : Bool := !l.isEmpty && l.all dg && (l == [48] || l.head? != some 48)
def inL (l ch : List Nat) : Bool := l.all fun c => decide (c ∈ ch)
theorem digit128 : ∀ c : Nat, c < 128 → Unicode.isDigit c = dg c := by
  intro c hc
  have h : ∀ c : Fin 128, Unicode.isDigit c.val = dg c.val := by decide +kernel
  exact h ⟨c, hc⟩
theorem dg_lt {c : Nat} (h : dg c = true) : 48 ≤ c ∧ c ≤ 57 := by
  unfold dg at h
  rw [Bool.and_eq_true] at h
  exact ⟨of_decide_eq_true h.1, of_decide_eq_true h.2⟩
theorem all_digits {z : Str} (ha : Txt.isascii z = true) : Txt.isdigit z = (!z.cps.toList.isEmpty && z.cps.toList.all dg) := by
  unfold Txt.isdigit
  have h := asc_list.mp ha
  rw [← Array.all_toList]
  have e1 : decide (z.length > 0) = !z.cps.toList.isEmpty := by
    rw [← len_tl]
    cases z.cps.toList <;> simp
  rw [e1]
  congr 1
  revert h
  generalize z.cps.toList = l
  intro h
  induction l with
  | nil => rfl
  | cons c r ih =>
    rw [List.all_cons, List.all_cons, digit128 c (h c List.mem_cons_self), ih (fun d hd => h d (List.mem_cons_of_mem _ hd))]
theorem dcL_asc {z : Str} (h : Txt.isascii z = false) : dcL z.cps.toList = false := by
  cases e : dcL z.cps.toList with
  | false => rfl
  | true =>
    unfold dcL at e
    rw [Bool.and_eq_true, Bool.and_eq_true] at e
    have := asc_list.mpr (fun c hc => by have := dg_lt (List.all_eq_true.mp e.1.2 c hc); omega)
    rw [h] at this; cases this
theorem str_eq_l {a b : Str} : a = b ↔ a.cps.toList = b.cps.toList := by
  constructor
  · rintro rfl; rfl
  · intro h
    cases a; cases b
    simp only [Str.mk.injEq]
    exact Array.toList_inj.mp h
def spStrB (K : PySem.W.Frag) (f : List Nat → Bool) : Sp := fun vs H Q _ => ∃ (z : Str), vs = [.str z] ∧ z.length ≤ 10000 ∧ ∀ H', Same H H' → Q (.bl (f z.cps.toList)) H'
section
variable {P : Program} {w : World} {K : PySem.W.Frag} {mg : Str → Option Value} {base : Heap}
theorem c_is_decimal {C_Group : Addr} {C_BadGroup : Addr} {C_BadLetter : Addr} {C_BadText : Addr} {C_FORMS : Addr} {C_CONSTANTS : Addr} (T : Txt K mg w C_Group C_BadGroup C_BadLetter C_BadText C_FORMS C_CONSTANTS) : Cal P w K mg base 1 "is_decimal" (spStrB K dcL) [] := by
  refine cal T.d_is_decimal sc_is_decimal (fun vs H Q E h => ?_) (fun f cdv A' outer s H vs Q E hr h => ?_)
  · obtain ⟨z, rfl, _⟩ := h; rfl
  obtain ⟨z, rfl, hz, q⟩ := h
  refine ⟨_, (pss_one (ps_ret (pe_and (pe_bm0 PySem.F.plainAttrs_str PySem.F.slot_str_isascii PySem.F.type_str_isascii mt_isascii (pv 0)) (pe_and (pe_bm0 PySem.F.plainAttrs_str PySem.F.slot_str_isdigit PySem.F.type_str_isdigit mt_isdigit (pv 0)) (pe_one (pe_or (pe_cmpR op_eq (pv 0) pe_str (nomark _)) (pe_one (pe_cmpR op_ne (pe_ix ix_str (pv 0) pe_int (fun _ _ => rfl)) pe_str (nomark _))))))))), ?_⟩
  have q := q H (Same.refl H)
  walk_at "rds"
  refine ⟨rfl, _, rfl, rfl, trivial, ?_⟩
  walk_at "rds"
  cases ha : Txt.isascii z with
  | false =>
    rw [dcL_asc ha] at q
    refine ifF rfl ?_
    exact q
  | true =>
    refine ifT rfl ?_
    walk_at "rds"
    refine ⟨rfl, _, rfl, rfl, trivial, ?_⟩
    walk_at "rds"
    rw [all_digits ha]
    cases hd : (!z.cps.toList.isEmpty && z.cps.toList.all dg) with
    | false =>
      have e : dcL z.cps.toList = false := by unfold dcL; rw [hd]; rfl
      rw [e] at q
      refine ifF rfl ?_
      exact q
    | true =>
      have e : dcL z.cps.toList = (z.cps.toList == [48] || z.cps.toList.head? != some 48) := by unfold dcL; rw [hd]; rfl
      rw [e] at q
      refine ifT rfl ?_
      walk_at "rds"
      have l0 : (Str.ofString "0").cps.toList = [48] := by decide
      refine ite2 (fun e0 => ?_) (fun e0 => ?_)
      · have e0 : z = Str.ofString "0" := V.str.inj (of_decide_eq_true e0)
        rw [e0, l0] at q
        exact q
      · have e0 : ¬ z = Str.ofString "0" := fun h => e0 (decide_eq_true (by rw [h]))
        have e1 : z.cps.toList ≠ [48] := fun h => e0 (str_eq_l.mpr (h.trans l0.symm))
        obtain ⟨c, r, hl⟩ : ∃ c r, z.cps.toList = c :: r := by
          cases hl : z.cps.toList with
          | nil => rw [hl] at hd; simp at hd
          | cons c r => exact ⟨c, r, rfl⟩
        have h0 : atI z.cps.toList 0 = some c := atI_nat (j := 0) (by rw [hl]; rfl)
        walk_at "rds"
        refine ⟨z, _, c, rfl, rfl, sz1000 (by omega), h0, ?_⟩
        walk_at "rds"
        have e2 : (z.cps.toList == [48]) = false := by simpa using e1
        rw [e2, hl, Bool.false_or] at q
        have e3 : (!decide (V.str ⟨#[c]⟩ = V.str (Str.ofString "0"))) = ((c :: r).head? != some 48) := by
          by_cases h : c = 48
          · subst h; rfl
          · rw [decide_eq_false (fun z => h (by
              have := congrArg (fun v => match v with | V.str s => s.cps.toList | _ => []) z
              have : [c] = [48] := this
              simpa using this))]
            simp [h]
        rw [← e3] at q
        exact q
end

/-! ### reading canonical texts, without Python -/
/-- a number of at most sixty digits and the mark behind it: its value, and how many codes it takes -/
def rdNum (m : Nat) (l : List Nat) : Option (Nat × Nat) :=
  let w := l.take 61
  let t := w.takeWhile (· != m)
  if t.length < w.length ∧ dcL t = true then some (PySem.NumText.digitsVal t, t.length + 1) else none
def rdInt (r : List Nat) : Option (PyData × Nat) :=
  match r with
  | 45 :: q => match rdNum 59 q with
    | some (n, k) => if n = 0 then none else some (.int (-(n : Int)), k + 2)
    | none => none
  | _ => match rdNum 59 r with
    | some (n, k) => some (.int (n : Int), k + 1)
    | none => none
def prL (l : List Nat) : Bool := l.all prC
def rdStr (r : List Nat) : Option (PyData × Nat) :=
  match rdNum 58 r with
  | some (n, k) => if k + n ≤ r.length ∧ prL ((r.drop k).take n) = true then some (.str ⟨((r.drop k).take n).toArray⟩, k + n + 1) else none
  | none => none
def rdL (f : List Nat → Option (PyData × Nat)) : Nat → List Nat → Option (List PyData × Nat)
  | 0, _ => some ([], 0)
  | n + 1, l => match f l with
    | none => none
    | some (d, k) => match rdL f n (l.drop k) with
      | none => none
      | some (ds, j) => some (d :: ds, k + j)
def rdTup (f : List Nat → Option (PyData × Nat)) (r : List Nat) : Option (PyData × Nat) :=
  match rdNum 58 r with
  | some (n, k) => match rdL f n (r.drop k) with
    | none => none
    | some (ds, j) => some (.tuple ds, k + j + 1)
  | none => none
def rdB (tup : List Nat → Option (PyData × Nat)) : List Nat → Option (PyData × Nat)
  | [] => none
  | c :: r => if c = 110 then some (.none, 1) else if c = 121 then some (.bool true, 1) else if c = 122 then some (.bool false, 1)
    else if c = 105 then rdInt r else if c = 115 then rdStr r else if c = 116 then tup r else none
def rdV : Nat → List Nat → Option (PyData × Nat)
  | 0 => rdB fun _ => none
  | d + 1 => rdB (rdTup (rdV d))
/-! numbers have one form -/
theorem dg_all {l : List Nat} (h : l.all dg = true) : PySem.NumText.AllDigits l := fun c hc => dg_lt (List.all_eq_true.mp h c hc)
theorem digitsVal_snoc (l : List Nat) (c : Nat) : PySem.NumText.digitsVal (l ++ [c]) = PySem.NumText.digitsVal l * 10 + (c - 48) := by
  unfold PySem.NumText.digitsVal
  rw [List.foldl_append]; rfl
theorem numL_back : ∀ (n : Nat) (l : List Nat), l.length = n → l ≠ [] → PySem.NumText.AllDigits l → (l = [48] ∨ l.head? ≠ some 48) → TL.numL (PySem.NumText.digitsVal l) = l := by
  intro n
  induction n with
  | zero => intro l h1 h2; exact absurd (List.length_eq_zero_iff.mp h1) h2
  | succ n ih =>
    intro l h1 h2 h3 h4
    obtain ⟨q, c, rfl⟩ : ∃ q c, l = q ++ [c] := ⟨_, _, (List.dropLast_concat_getLast h2).symm⟩
    have hc := h3 c (by simp)
    rw [digitsVal_snoc]
    cases q with
    | nil =>
      show TL.numL (0 * 10 + (c - 48)) = [c]
      rw [TL.numL_lt (by omega)]
      exact congrArg (· :: []) (by omega)
    | cons a r =>
      have ha := h3 a (by simp)
      have hd : a ≠ 48 := by
        rintro rfl
        rcases h4 with h4 | h4
        · simp at h4
        · exact h4 rfl
      have ih := ih (a :: r) (by simpa using h1) (by simp) (fun d m => h3 d (by simp only [List.mem_append]; exact .inl m)) (.inr (by simpa using hd))
      have hp : 1 ≤ PySem.NumText.digitsVal (a :: r) := by
        cases e : PySem.NumText.digitsVal (a :: r) with
        | zero =>
          rw [e, TL.numL_lt (by omega)] at ih
          injection ih with e1 _
          omega
        | succ k => omega
      rw [TL.numL_step (by omega)]
      rw [show (PySem.NumText.digitsVal (a :: r) * 10 + (c - 48)) / 10 = PySem.NumText.digitsVal (a :: r) by omega, ih,
        show 48 + (PySem.NumText.digitsVal (a :: r) * 10 + (c - 48)) % 10 = c by omega]
theorem dcL_iff {l : List Nat} : dcL l = true ↔ l ≠ [] ∧ PySem.NumText.AllDigits l ∧ (l = [48] ∨ l.head? ≠ some 48) := by
  unfold dcL
  rw [Bool.and_eq_true, Bool.and_eq_true, Bool.or_eq_true]
  constructor
  · rintro ⟨⟨a, b⟩, c⟩
    refine ⟨fun z => (by rw [z] at a; cases a), dg_all b, c.imp (fun z => eq_of_beq z) (fun z y => by rw [y] at z; simp at z)⟩
  · rintro ⟨a, b, c⟩
    refine ⟨⟨by cases l; exact absurd rfl a; rfl, List.all_eq_true.mpr fun x hx => by have := b x hx; unfold dg; rw [decide_eq_true this.1, decide_eq_true this.2]; rfl⟩, ?_⟩
    rcases c with c | c
    · exact .inl (by rw [c]; rfl)
    · exact .inr (by simpa using c)
theorem dcL_num {l : List Nat} (h : dcL l = true) : TL.numL (PySem.NumText.digitsVal l) = l := by
  obtain ⟨a, b, c⟩ := dcL_iff.mp h
  exact numL_back _ l rfl a b c
theorem numL_head {n : Nat} (h : 10 ≤ n) : ∃ a r, TL.numL n = a :: r ∧ a ≠ 48 := by
  induction n using Nat.strongRecOn with
  | _ n ih =>
    rw [TL.numL_step h]
    by_cases g : n / 10 < 10
    · rw [TL.numL_lt g]
      exact ⟨_, _, rfl, by omega⟩
    · obtain ⟨a, r, e, ha⟩ := ih (n / 10) (by omega) (by omega)
      rw [e]
      exact ⟨a, _, rfl, ha⟩
theorem num_dcL (n : Nat) : dcL (TL.numL n) = true := by
  refine dcL_iff.mpr ⟨TL.numL_ne n, TL.numL_digits n, ?_⟩
  by_cases h : n < 10
  · rw [TL.numL_lt h]
    by_cases z : n = 0
    · subst z; exact .inl rfl
    · exact .inr (by simpa using z)
  · obtain ⟨a, r, e, ha⟩ := numL_head (n := n) (by omega)
    rw [e]
    exact .inr (by simpa using ha)
theorem takeWhile_all' {l : List Nat} {p : Nat → Bool} (h : (l.takeWhile p).length = l.length) : l.takeWhile p = l :=
  (List.takeWhile_prefix p).eq_of_length h
theorem takeWhile_next : ∀ {l : List Nat} {m : Nat}, (l.takeWhile (· != m)).length < l.length → ∃ r, l = l.takeWhile (· != m) ++ m :: r
  | [], m, h => by simp at h
  | c :: l, m, h => by
    by_cases e : c = m
    · subst e
      exact ⟨l, by rw [List.takeWhile_cons_of_neg (by simp)]; rfl⟩
    · have e' : (c != m) = true := by simpa using e
      rw [List.takeWhile_cons_of_pos (p := (· != m)) e'] at h ⊢
      obtain ⟨r, g⟩ := takeWhile_next (l := l) (m := m) (by simpa using h)
      exact ⟨r, by rw [List.cons_append, ← g]⟩
theorem rdNum_inv {m : Nat} {l : List Nat} {n k : Nat} (h : rdNum m l = some (n, k)) : ∃ r, l = TL.numL n ++ m :: r ∧ k = (TL.numL n).length + 1 ∧ (TL.numL n).length ≤ 60 ∧ k ≤ l.length := by
  unfold rdNum at h
  simp only at h
  split at h
  · rename_i hc
    obtain ⟨h1, h2⟩ := hc
    cases h
    rw [dcL_num h2]
    obtain ⟨r, e⟩ := takeWhile_next h1
    have l1 := List.length_take (i := 61) (l := l)
    have l2 := congrArg List.length e
    rw [List.length_append, List.length_cons] at l2
    generalize (l.take 61).takeWhile (· != m) = t at *
    refine ⟨r ++ l.drop 61, ?_, rfl, by omega, by omega⟩
    rw [← List.cons_append, ← List.append_assoc, ← e, List.take_append_drop]
  · cases h
theorem takeWhile_app {t r : List Nat} {m : Nat} (h : m ∉ t) : (t ++ m :: r).takeWhile (· != m) = t := by
  rw [List.takeWhile_append_of_pos (fun c hc => by simp; rintro rfl; exact h hc), List.takeWhile_cons_of_neg (by simp), List.append_nil]
theorem rdNum_of {m : Nat} {n : Nat} {r : List Nat} (hm : m < 48 ∨ 57 < m) (hl : (TL.numL n).length ≤ 60) : rdNum m (TL.numL n ++ m :: r) = some (n, (TL.numL n).length + 1) := by
  unfold rdNum
  have e : (TL.numL n ++ m :: r).take 61 = TL.numL n ++ m :: r.take (60 - (TL.numL n).length) := by
    rw [List.take_append, List.take_of_length_le (by omega)]
    congr 1
    rw [show 61 - (TL.numL n).length = (60 - (TL.numL n).length) + 1 by omega]; rfl
  simp only [e]
  rw [takeWhile_app (TL.numL_free hm), if_pos ⟨by rw [List.length_append, List.length_cons]; omega, num_dcL n⟩, TL.numL_val]
/-! ### the texts by their codes -/
theorem tl_num' (n : Nat) : (Str.ofString (toString ((n : Nat) : Int))).cps.toList = TL.numL n := TL.tl_num n
def txL : List PyData → List Nat
  | [] => []
  | d :: r => (txD d).cps.toList ++ txL r
theorem txA_tl : ∀ (ds : List PyData) (acc : Str), (txA acc ds).cps.toList = acc.cps.toList ++ txL ds
  | [], acc => by rw [txA, txL, List.append_nil]
  | d :: r, acc => by rw [txA, txA_tl r, app_tl, txL, List.append_assoc]
theorem hdr_tl (n : Nat) : (hdr n).cps.toList = 116 :: (TL.numL n ++ [58]) := by
  rw [hdr_eq, app_tl, app_tl, tl_num']; rfl
theorem tup_tl (ds : List PyData) : (txD (.tuple ds)).cps.toList = 116 :: (TL.numL ds.length ++ 58 :: txL ds) := by
  rw [txD, txA_tl, hdr_tl]; simp
theorem str_tl {z : Str} (h : OkD (.str z)) : (txD (.str z)).cps.toList = 115 :: (TL.numL z.length ++ 58 :: z.cps.toList) := by
  rw [txD_str h, app_tl, app_tl, app_tl, tl_num']
  show ([115] ++ TL.numL z.length) ++ [58] ++ _ = _
  simp
theorem int_tl {i : Int} (h : OkD (.int i)) (h0 : 0 ≤ i) : (txD (.int i)).cps.toList = 105 :: (TL.numL i.natAbs ++ [59]) := by
  rw [txD_int h, app_tl, app_tl]
  obtain ⟨n, rfl⟩ := Int.eq_ofNat_of_zero_le h0
  rw [tl_num']; rfl
theorem ofString_app (a b : String) : Str.ofString (a ++ b) = Str.ofString a ++ Str.ofString b := by
  refine str_eq_l.mpr ?_
  rw [app_tl, PySem.Str.ofString_eq_toList, PySem.Str.ofString_eq_toList, PySem.Str.ofString_eq_toList]
  simp
theorem neg_tl {i : Int} (h : OkD (.int i)) (h0 : i < 0) : (txD (.int i)).cps.toList = 105 :: 45 :: (TL.numL i.natAbs ++ [59]) := by
  rw [txD_int h, app_tl, app_tl]
  obtain ⟨n, rfl⟩ : ∃ n : Nat, i = Int.negSucc n := by
    cases i with
    | ofNat n => exact absurd h0 (Int.not_lt.mpr (Int.natCast_nonneg n))
    | negSucc n => exact ⟨n, rfl⟩
  have e : toString (Int.negSucc n) = "-" ++ toString (((n + 1 : Nat)) : Int) := rfl
  have e2 : Str.ofString (toString (Int.negSucc n)) = Str.ofString "-" ++ Str.ofString (toString (((n + 1 : Nat)) : Int)) := by
    rw [e, ofString_app]
  rw [e2, app_tl, tl_num']
  rfl
/-! ### what is read is what was written -/
theorem prL_isPr {z : Str} : isPr z = prL z.cps.toList := rfl
theorem fewI_of {i : Int} (h : i.natAbs < 10 ^ 60) : fewI i = true := few_yes h
theorem few_lt {i : Int} (h : fewI i = true) : i.natAbs < 10 ^ 60 := by
  refine Classical.byContradiction fun g => ?_
  rw [few_no (by omega)] at h; cases h
theorem OkD_int {i : Int} : OkD (.int i) ↔ i.natAbs < 10 ^ 60 := by
  rw [OkD_sg rfl]
  constructor
  · intro h
    cases e : fewI i with
    | false => rw [show sgT (.int i) = none from if_neg (by rw [e]; decide)] at h; cases h
    | true => exact few_lt e
  · intro h
    rw [sgT_int (few_yes h)]; rfl
theorem OkD_str {z : Str} : OkD (.str z) ↔ isPr z = true := by
  rw [OkD_sg rfl]
  constructor
  · intro h
    cases e : isPr z with
    | false => rw [show sgT (.str z) = none from if_neg (by rw [e]; decide)] at h; cases h
    | true => rfl
  · intro h
    rw [sgT_str h]; rfl
theorem numL_lt60 {n : Nat} (h : (TL.numL n).length ≤ 60) : n < 10 ^ 60 := by
  have e : (toString (n : Int)).length = (TL.numL n).length := by rw [← tl_num', len_tl, PySem.ofString_length]
  have g : n.repr.length ≤ 60 := by
    have : (toString (n : Int)) = n.repr := rfl
    rw [← this, e]; exact h
  exact (Nat.length_repr_le_iff (by decide)).mp g
theorem numL_le60 {n : Nat} (h : n < 10 ^ 60) : (TL.numL n).length ≤ 60 := TL.numL_len (by decide) h
/-- the reading of a value: what it takes is its text -/
def Rd (f : List Nat → Option (PyData × Nat)) (k : Nat) : Prop := ∀ l d n, f l = some (d, n) → ∃ r, l = (txD d).cps.toList ++ r ∧ n = (txD d).cps.toList.length ∧ OkD d ∧ dpD d ≤ k
theorem rdInt_inv {r : List Nat} {d : PyData} {n : Nat} (h : rdInt r = some (d, n)) : ∃ q, 105 :: r = (txD d).cps.toList ++ q ∧ n = (txD d).cps.toList.length ∧ OkD d ∧ dpD d ≤ 0 := by
  unfold rdInt at h
  split at h
  · rename_i q
    cases e : rdNum 59 q with
    | none => rw [e] at h; cases h
    | some p =>
      obtain ⟨m, k⟩ := p
      rw [e] at h
      by_cases m0 : m = 0
      · rw [show (match some (m, k) with | some (n, k) => if n = 0 then none else some (PyData.int (-(n : Int)), k + 2) | none => none) = none from if_pos m0] at h
        cases h
      · rw [show (match some (m, k) with | some (n, k) => if n = 0 then none else some (PyData.int (-(n : Int)), k + 2) | none => none) = some (PyData.int (-(m : Int)), k + 2) from if_neg m0] at h
        cases h
        obtain ⟨s, e1, e2, e3, _⟩ := rdNum_inv e
        have ok : OkD (.int (-(m : Int))) := OkD_int.mpr (by have := numL_lt60 e3; omega)
        refine ⟨s, ?_, ?_, ok, by rw [dpD_sg rfl]; omega⟩
        · rw [neg_tl ok (by omega), show (-(m : Int)).natAbs = m by omega, e1]; simp
        · rw [neg_tl ok (by omega), show (-(m : Int)).natAbs = m by omega, e2]; simp
  · cases e : rdNum 59 r with
    | none => rw [e] at h; cases h
    | some p =>
      obtain ⟨m, k⟩ := p
      rw [e] at h
      cases h
      obtain ⟨s, e1, e2, e3, _⟩ := rdNum_inv e
      have ok : OkD (.int (m : Int)) := OkD_int.mpr (by have := numL_lt60 e3; omega)
      refine ⟨s, ?_, ?_, ok, by rw [dpD_sg rfl]; omega⟩
      · rw [int_tl ok (by omega), show ((m : Int)).natAbs = m by omega, e1]; simp
      · rw [int_tl ok (by omega), show ((m : Int)).natAbs = m by omega, e2]; simp
theorem rdStr_inv {r : List Nat} {d : PyData} {n : Nat} (h : rdStr r = some (d, n)) : ∃ q, 115 :: r = (txD d).cps.toList ++ q ∧ n = (txD d).cps.toList.length ∧ OkD d ∧ dpD d ≤ 0 := by
  unfold rdStr at h
  cases e : rdNum 58 r with
  | none => rw [e] at h; cases h
  | some p =>
    obtain ⟨m, k⟩ := p
    rw [e] at h
    by_cases g : k + m ≤ r.length ∧ prL ((r.drop k).take m) = true
    · rw [show (match some (m, k) with | some (n, k) => if k + n ≤ r.length ∧ prL ((r.drop k).take n) = true then some (PyData.str ⟨((r.drop k).take n).toArray⟩, k + n + 1) else none | none => none) = some (PyData.str ⟨((r.drop k).take m).toArray⟩, k + m + 1) from if_pos g] at h
      cases h
      obtain ⟨s, e1, e2, e3, e4⟩ := rdNum_inv e
      have ok : OkD (.str ⟨((r.drop k).take m).toArray⟩) := OkD_str.mpr g.2
      have lz : (⟨((r.drop k).take m).toArray⟩ : Str).length = m := by
        show ((r.drop k).take m).toArray.size = m
        rw [List.size_toArray, List.length_take, List.length_drop]; omega
      have dk : r.drop k = s := by rw [e1, e2, List.drop_append]; simp
      refine ⟨s.drop m, ?_, ?_, ok, by rw [dpD_sg rfl]; omega⟩
      · rw [str_tl ok, lz]
        show 115 :: r = 115 :: (TL.numL m ++ 58 :: (r.drop k).take m) ++ s.drop m
        rw [dk, e1]
        simp
      · rw [str_tl ok, lz, List.length_cons, List.length_append, List.length_cons, len_tl, lz]; omega
    · rw [show (match some (m, k) with | some (n, k) => if k + n ≤ r.length ∧ prL ((r.drop k).take n) = true then some (PyData.str ⟨((r.drop k).take n).toArray⟩, k + n + 1) else none | none => none) = none from if_neg g] at h
      cases h
theorem rdL_cons {f : List Nat → Option (PyData × Nat)} {n : Nat} {l : List Nat} : rdL f (n + 1) l = match f l with
    | none => none
    | some (d, k) => match rdL f n (l.drop k) with
      | none => none
      | some (ds, j) => some (d :: ds, k + j) := by rw [rdL]
theorem rdL_inv {f : List Nat → Option (PyData × Nat)} {k : Nat} (hf : Rd f k) : ∀ (n : Nat) (l : List Nat) (ds : List PyData) (j : Nat), rdL f n l = some (ds, j) →
    ∃ r, l = txL ds ++ r ∧ j = (txL ds).length ∧ ds.length = n ∧ OkL ds ∧ dpL ds ≤ k
  | 0, l, ds, j, h => by
    rw [rdL] at h; cases h
    exact ⟨l, by rw [txL]; rfl, by rw [txL]; rfl, rfl, by rw [OkL]; trivial, by rw [dpL]; omega⟩
  | n + 1, l, ds, j, h => by
    rw [rdL_cons] at h
    cases e : f l with
    | none => rw [e] at h; cases h
    | some p =>
      obtain ⟨d, m⟩ := p
      rw [e] at h
      cases e2 : rdL f n (l.drop m) with
      | none => simp only [e2] at h; cases h
      | some p2 =>
        obtain ⟨ds2, j2⟩ := p2
        simp only [e2] at h
        cases h
        obtain ⟨r1, a1, a2, a3, a4⟩ := hf _ _ _ e
        obtain ⟨r2, b1, b2, b3, b4, b5⟩ := rdL_inv hf n _ _ _ e2
        refine ⟨r2, ?_, ?_, by rw [List.length_cons, b3], by rw [OkL]; exact ⟨a3, b4⟩, by rw [dpL]; omega⟩
        · rw [txL, List.append_assoc, ← b1, a2]
          rw [a1] at *
          simp
        · rw [txL, List.length_append]; omega
theorem rdTup_inv {f : List Nat → Option (PyData × Nat)} {k : Nat} (hf : Rd f k) {r : List Nat} {d : PyData} {n : Nat} (h : rdTup f r = some (d, n)) : ∃ q, 116 :: r = (txD d).cps.toList ++ q ∧ n = (txD d).cps.toList.length ∧ OkD d ∧ dpD d ≤ k + 1 := by
  unfold rdTup at h
  cases e : rdNum 58 r with
  | none => rw [e] at h; cases h
  | some p =>
    obtain ⟨m, j⟩ := p
    simp only [e] at h
    cases e2 : rdL f m (r.drop j) with
    | none => simp only [e2] at h; cases h
    | some p2 =>
      obtain ⟨ds, i⟩ := p2
      simp only [e2] at h
      cases h
      obtain ⟨s, e1, e2', e3, e4⟩ := rdNum_inv e
      obtain ⟨r2, b1, b2, b3, b4, b5⟩ := rdL_inv hf _ _ _ _ e2
      have dk : r.drop j = s := by rw [e1, e2', List.drop_append]; simp
      refine ⟨r2, ?_, ?_, by rw [OkD]; exact b4, by rw [dpD]; omega⟩
      · rw [tup_tl, b3, e1, ← dk, b1]; simp
      · rw [tup_tl, b3, List.length_cons, List.length_append, List.length_cons]; omega
theorem rdB_inv {t : List Nat → Option (PyData × Nat)} {k : Nat} (ht : ∀ r d n, t r = some (d, n) → ∃ q, 116 :: r = (txD d).cps.toList ++ q ∧ n = (txD d).cps.toList.length ∧ OkD d ∧ dpD d ≤ k) : Rd (rdB t) k := by
  intro l d n h
  cases l with
  | nil => cases h
  | cons c r =>
    unfold rdB at h
    simp only at h
    split at h
    · rename_i e; subst e; cases h; exact ⟨r, by rw [txD_sg rfl]; rfl, by rw [txD_sg rfl]; rfl, by rw [OkD_sg rfl]; rfl, by rw [dpD_sg rfl]; omega⟩
    split at h
    · rename_i e; subst e; cases h; exact ⟨r, by rw [txD_sg rfl]; rfl, by rw [txD_sg rfl]; rfl, by rw [OkD_sg rfl]; rfl, by rw [dpD_sg rfl]; omega⟩
    split at h
    · rename_i e; subst e; cases h; exact ⟨r, by rw [txD_sg rfl]; rfl, by rw [txD_sg rfl]; rfl, by rw [OkD_sg rfl]; rfl, by rw [dpD_sg rfl]; omega⟩
    split at h
    · rename_i e; subst e
      obtain ⟨q, a, b, c, d⟩ := rdInt_inv h
      exact ⟨q, a, b, c, by omega⟩
    split at h
    · rename_i e; subst e
      obtain ⟨q, a, b, c, d⟩ := rdStr_inv h
      exact ⟨q, a, b, c, by omega⟩
    split at h
    · rename_i e; subst e
      exact ht _ _ _ h
    · cases h
theorem rdV_inv : ∀ k : Nat, Rd (rdV k) k
  | 0 => rdB_inv (fun _ _ _ h => by cases h)
  | k + 1 => rdB_inv (fun _ _ _ h => rdTup_inv (rdV_inv k) h)
/-! ### what was written is read -/
theorem rdB_tup {t : List Nat → Option (PyData × Nat)} {r : List Nat} : rdB t (116 :: r) = t r := rfl
theorem rdV_sg {t : List Nat → Option (PyData × Nat)} {d : PyData} (hd : isTup d = false) (ok : OkD d) (r : List Nat) (hl : (txD d).length ≤ 1000000) : rdB t ((txD d).cps.toList ++ r) = some (d, (txD d).cps.toList.length) := by
  cases d with
  | none => rw [txD_sg rfl]; rfl
  | bool b => rw [txD_sg rfl]; cases b <;> rfl
  | int i =>
    have h60 := OkD_int.mp ok
    have hn := numL_le60 h60
    by_cases h0 : 0 ≤ i
    · rw [int_tl ok h0]
      show rdInt (TL.numL i.natAbs ++ [59] ++ r) = _
      have e : TL.numL i.natAbs ++ [59] ++ r = TL.numL i.natAbs ++ 59 :: r := by simp
      rw [e]
      have e2 : rdInt (TL.numL i.natAbs ++ 59 :: r) = match rdNum 59 (TL.numL i.natAbs ++ 59 :: r) with
        | some (n, k) => some (.int (n : Int), k + 1)
        | none => none := by
        cases e3 : TL.numL i.natAbs with
        | nil => exact absurd e3 (TL.numL_ne _)
        | cons a q =>
          have ha := TL.numL_digits i.natAbs a (by rw [e3]; simp)
          unfold rdInt
          split
          · rename_i x y
            injection y with y1 y2
            omega
          · rfl
      rw [e2, rdNum_of (by omega) hn]
      show some (PyData.int (i.natAbs : Int), (TL.numL i.natAbs).length + 1 + 1) = _
      rw [show ((i.natAbs : Nat) : Int) = i by omega]
      simp
    · rw [neg_tl ok (by omega)]
      show rdInt (45 :: (TL.numL i.natAbs ++ [59] ++ r)) = _
      have e : TL.numL i.natAbs ++ [59] ++ r = TL.numL i.natAbs ++ 59 :: r := by simp
      rw [e]
      show (match rdNum 59 (TL.numL i.natAbs ++ 59 :: r) with
        | some (n, k) => if n = 0 then none else some (PyData.int (-(n : Int)), k + 2)
        | none => none) = _
      rw [rdNum_of (by omega) hn]
      show (if i.natAbs = 0 then none else some (PyData.int (-((i.natAbs : Nat) : Int)), (TL.numL i.natAbs).length + 1 + 2)) = _
      rw [if_neg (by omega), show -((i.natAbs : Nat) : Int) = i by omega]
      simp
  | str z =>
    have hp := OkD_str.mp ok
    have hz : z.length ≤ 1000000 := by
      have := congrArg List.length (str_tl ok)
      rw [len_tl, List.length_cons, List.length_append, List.length_cons, len_tl] at this
      omega
    rw [str_tl ok]
    show rdStr (TL.numL z.length ++ 58 :: z.cps.toList ++ r) = _
    have e : TL.numL z.length ++ 58 :: z.cps.toList ++ r = TL.numL z.length ++ 58 :: (z.cps.toList ++ r) := by simp
    rw [e]
    unfold rdStr
    rw [rdNum_of (by omega) (numL_le60 (Nat.lt_of_le_of_lt hz (by decide)))]
    have dk : (TL.numL z.length ++ 58 :: (z.cps.toList ++ r)).drop ((TL.numL z.length).length + 1) = z.cps.toList ++ r := by rw [List.drop_append]; simp
    have tk : (z.cps.toList ++ r).take z.length = z.cps.toList := by rw [← len_tl, List.take_left]
    simp only [dk, tk]
    rw [if_pos ⟨by rw [List.length_append, List.length_cons, List.length_append, len_tl]; omega, hp⟩]
    rw [List.length_cons, List.length_append, List.length_cons, len_tl]
    congr 2
    omega
  | tuple ds => cases hd
  | list ds => rw [OkD_sg rfl] at ok; cases ok
  | dict ds => rw [OkD_sg rfl] at ok; cases ok
theorem txL_ge : ∀ {ds : List PyData} {d : PyData}, d ∈ ds → (txD d).length ≤ (txL ds).length
  | x :: r, _, .head _ => by rw [txL, List.length_append, len_tl]; omega
  | x :: r, d, .tail _ m => by rw [txL, List.length_append]; have := txL_ge m; omega
theorem txD_pos {d : PyData} (ok : OkD d) : 1 ≤ (txD d).length := by
  cases d with
  | none => rw [txD_sg rfl]; decide
  | bool b => rw [txD_sg rfl]; cases b <;> decide
  | int i =>
    rw [← len_tl]
    by_cases h0 : 0 ≤ i
    · rw [int_tl ok h0, List.length_cons]; omega
    · rw [neg_tl ok (by omega), List.length_cons]; omega
  | str z => rw [← len_tl, str_tl ok, List.length_cons]; omega
  | tuple ds => rw [← len_tl, tup_tl, List.length_cons]; omega
  | list ds => rw [OkD_sg rfl] at ok; cases ok
  | dict ds => rw [OkD_sg rfl] at ok; cases ok
theorem txL_len : ∀ {ds : List PyData}, OkL ds → ds.length ≤ (txL ds).length
  | [], _ => Nat.zero_le _
  | d :: r, h => by
    rw [OkL] at h
    rw [txL, List.length_append, len_tl, List.length_cons]
    have := txD_pos h.1; have := txL_len h.2; omega
theorem tup_len (ds : List PyData) : (txL ds).length + 2 ≤ (txD (.tuple ds)).length := by
  rw [← len_tl, tup_tl, List.length_cons, List.length_append, List.length_cons]; omega
theorem rdL_of {f : List Nat → Option (PyData × Nat)} : ∀ (ds : List PyData) (r : List Nat), (∀ d ∈ ds, ∀ r, f ((txD d).cps.toList ++ r) = some (d, (txD d).cps.toList.length)) → rdL f ds.length (txL ds ++ r) = some (ds, (txL ds).length)
  | [], r, _ => by rw [show txL [] = [] from by rw [txL]]; rfl
  | d :: q, r, h => by
    rw [List.length_cons, rdL_cons, txL, List.append_assoc, h d (List.mem_cons_self ..)]
    have e : ((txD d).cps.toList ++ (txL q ++ r)).drop (txD d).cps.toList.length = txL q ++ r := by rw [List.drop_left]
    simp only [e, rdL_of q r fun d m => h d (List.mem_cons_of_mem _ m)]
    rw [List.length_append]
theorem rdV_of : ∀ (k : Nat) (d : PyData) (r : List Nat), OkD d → dpD d ≤ k → (txD d).length ≤ 1000000 → rdV k ((txD d).cps.toList ++ r) = some (d, (txD d).cps.toList.length)
  | k, d, r, ok, dp, hl => by
    cases hd : isTup d with
    | false => cases k with
      | zero => exact rdV_sg hd ok r hl
      | succ k => exact rdV_sg hd ok r hl
    | true =>
      cases d with
      | tuple ds =>
        rw [dpD] at dp
        cases k with
        | zero => omega
        | succ k =>
          have okL : OkL ds := by rw [OkD] at ok; exact ok
          have tl := tup_len ds
          rw [tup_tl]
          show rdTup (rdV k) (TL.numL ds.length ++ 58 :: txL ds ++ r) = _
          have e : TL.numL ds.length ++ 58 :: txL ds ++ r = TL.numL ds.length ++ 58 :: (txL ds ++ r) := by simp
          have hn : ds.length < 10 ^ 60 := Nat.lt_of_le_of_lt (Nat.le_trans (txL_len okL) (show _ ≤ 1000000 by omega)) (by decide)
          rw [e]
          unfold rdTup
          rw [rdNum_of (by omega) (numL_le60 hn)]
          have dk : (TL.numL ds.length ++ 58 :: (txL ds ++ r)).drop ((TL.numL ds.length).length + 1) = txL ds ++ r := by rw [List.drop_append]; simp
          have ih := rdL_of (f := rdV k) ds r (fun d m r => rdV_of k d r (okL.mem _ m) (by have := dpL_mem _ m; omega) (by have := txL_ge m; omega))
          simp only [dk, ih]
          rw [List.length_cons, List.length_append, List.length_cons]
          congr 2
          omega
      | _ => cases hd

/-! ### find and startswith within bounds -/
theorem gives_startsW (x y : Str) (i j : Int) (t u v w' : PySem.Tok) : PySem.Gives (PySem.Builtin.«str.startswith» ⟨[.str x t, .str y u, .int i v, .int j w'], []⟩) (.val (.bool (decide (PySem.fromIndex x.length i + y.length ≤ PySem.toIndexW x.length j) && PySem.Builtin.Str.subAt x y (PySem.fromIndex x.length i)))) := by
  show PySem.Gives (PySem.ret (.bool (decide (PySem.fromIndex x.length i + y.length ≤ PySem.toIndexW x.length j) && PySem.Builtin.Str.subAt x y (PySem.fromIndex x.length i)))) _
  exact .of_eq rfl
def startsW (x y : Str) (i j : Int) : Bool := decide (PySem.fromIndex x.length i + y.length ≤ PySem.toIndexW x.length j) && PySem.Builtin.Str.subAt x y (PySem.fromIndex x.length i)
theorem mt_startswith4 {X : Cx} : MtR X "str.startswith" (fun x xs H Q => ∃ (a b : Str) (i j : Int), x = .str a ∧ xs = [.str b, .int i, .int j] ∧ Q (.bl (startsW a b i j)) H) :=
  mt1II (g := fun a b i j => .bl (startsW a b i j)) fun a b i j t u z y s _ h =>
    PySem.call_gives PySem.F.slot_str_startswith (PySem.typeIs_str _ _ _) PySem.F.entry_str_startswith (PySem.F.args_str_startswith_4 _ _ _ _) (gives_startsW a b i j t u z y) (h _ s.toks rfl)
theorem fromIx {n s : Nat} : PySem.fromIndex n (s : Int) = s := by
  unfold PySem.fromIndex
  rw [if_neg (by omega)]; omega
theorem toIx {n e : Nat} (h : e ≤ n) : PySem.toIndexW n (e : Int) = e := by
  unfold PySem.toIndexW
  rw [if_neg (by omega)]; omega
open PySem.StrLaws in
theorem occ_full (x y : Str) (hi : Nat) : ∀ (l : List Nat) (st : Array Nat × Nat), 1 ≤ st.fst.size → (forIn l st (occBody x y hi 1)).run.fst = st.fst
  | [], st, _ => rfl
  | a :: l, st, h => by
    rw [List.forIn_cons]
    unfold occBody
    rw [if_neg (fun z => by have := z.1.1.1; omega)]
    exact occ_full x y hi l _ h
open PySem.StrLaws in
theorem occ_go (x : Str) (c hi : Nat) (hh : hi ≤ x.length) : ∀ (n a free : Nat), free ≤ a → a + n = hi + 1 →
    (forIn (List.range' a n) ((#[] : Array Nat), free) (occBody x ⟨#[c]⟩ hi 1)).run.fst.toList =
      if (((x.cps.toList.drop a).take (hi - a)).takeWhile (· != c)).length < ((x.cps.toList.drop a).take (hi - a)).length then [a + (((x.cps.toList.drop a).take (hi - a)).takeWhile (· != c)).length] else []
  | 0, a, free, _, h => by
    rw [show hi - a = 0 by omega, List.take_zero]; rfl
  | n + 1, a, free, hf, h => by
    rw [List.range'_succ, List.forIn_cons]
    have one := subAt_one x c a
    have l1 : (⟨#[c]⟩ : Str).length = 1 := rfl
    by_cases e : a = hi
    · subst e
      have c2 : ¬ (((((#[] : Array Nat), free).fst.size < 1 ∧ ((#[] : Array Nat), free).snd ≤ a) ∧ a + (⟨#[c]⟩ : Str).length ≤ a) ∧ PySem.Builtin.Str.subAt x ⟨#[c]⟩ a = true) := fun h => by have := h.1.2; omega
      unfold occBody
      rw [if_neg c2]
      have ih := occ_go x c a hh n (a + 1) free (by omega) (by omega)
      unfold occBody at ih
      refine ih.trans ?_
      rw [show a - (a + 1) = 0 by omega, show a - a = 0 by omega, List.take_zero, List.take_zero]; rfl
    · have ha : a < x.cps.toList.length := by rw [len_tl]; omega
      have dr : (x.cps.toList.drop a).take (hi - a) = x.cps.toList[a] :: (x.cps.toList.drop (a + 1)).take (hi - (a + 1)) := by
        rw [List.drop_eq_getElem_cons ha, show hi - a = (hi - (a + 1)) + 1 by omega, List.take_succ_cons]
      by_cases ec : x.cps.toList[a] = c
      · have hc := one.mpr (by rw [List.getElem?_eq_getElem ha, ec])
        have c1 : ((((#[] : Array Nat), free).fst.size < 1 ∧ ((#[] : Array Nat), free).snd ≤ a) ∧ a + (⟨#[c]⟩ : Str).length ≤ hi) ∧ PySem.Builtin.Str.subAt x ⟨#[c]⟩ a = true := ⟨⟨⟨by simp, hf⟩, by omega⟩, hc.2⟩
        unfold occBody
        rw [if_pos c1]
        have full := occ_full x ⟨#[c]⟩ hi (List.range' (a + 1) n) ((#[] : Array Nat).push a, a + (⟨#[c]⟩ : Str).length) (by simp)
        unfold occBody at full
        refine (congrArg Array.toList full).trans ?_
        rw [dr, ec, List.takeWhile_cons_of_neg (by simp)]
        simp
      · have c2 : ¬ (((((#[] : Array Nat), free).fst.size < 1 ∧ ((#[] : Array Nat), free).snd ≤ a) ∧ a + (⟨#[c]⟩ : Str).length ≤ hi) ∧ PySem.Builtin.Str.subAt x ⟨#[c]⟩ a = true) := fun h => by
          have := one.mp ⟨by omega, h.2⟩
          rw [List.getElem?_eq_getElem ha] at this
          exact ec (Option.some.inj this)
        unfold occBody
        rw [if_neg c2]
        have ih := occ_go x c hi hh n (a + 1) free (by omega) (by omega)
        unfold occBody at ih
        refine ih.trans ?_
        have ne : (x.cps.toList[a] != c) = true := by simpa using ec
        rw [dr, List.takeWhile_cons_of_pos (p := (· != c)) ne, List.length_cons, List.length_cons]
        generalize ((x.cps.toList.drop (a + 1)).take (hi - (a + 1))) = q
        by_cases g : (q.takeWhile (· != c)).length < q.length
        · rw [if_pos g, if_pos (by omega)]
          congr 1; omega
        · rw [if_neg g, if_neg (by omega)]
theorem findIn_win {x : Str} {c s e : Nat} (hs : s ≤ e) (he : e ≤ x.length) : PySem.Txt.findIn x ⟨#[c]⟩ (s : Int) (e : Int) =
    if (((x.cps.toList.drop s).take (e - s)).takeWhile (· != c)).length < ((x.cps.toList.drop s).take (e - s)).length then ((s + (((x.cps.toList.drop s).take (e - s)).takeWhile (· != c)).length : Nat) : Int) else -1 := by
  unfold PySem.Txt.findIn
  rw [fromIx, toIx he, PySem.StrLaws.occ_eq, occ_go x c e he _ s s (by omega) (by omega)]
  by_cases g : (((x.cps.toList.drop s).take (e - s)).takeWhile (· != c)).length < ((x.cps.toList.drop s).take (e - s)).length
  · rw [if_pos g, if_pos g]
  · rw [if_neg g, if_neg g]
theorem startsW_one {x : Str} {c s e : Nat} (he : e ≤ x.length) : startsW x ⟨#[c]⟩ (s : Int) (e : Int) = decide (((x.cps.toList.drop s).take (e - s)).head? = some c) := by
  unfold startsW
  rw [fromIx, toIx he]
  have l1 : (⟨#[c]⟩ : Str).length = 1 := rfl
  have one := PySem.StrLaws.subAt_one x c s
  by_cases g : s < e
  · have hs : s < x.cps.toList.length := by rw [len_tl]; omega
    have dr : (x.cps.toList.drop s).take (e - s) = x.cps.toList[s] :: (x.cps.toList.drop (s + 1)).take (e - (s + 1)) := by
      rw [List.drop_eq_getElem_cons hs, show e - s = (e - (s + 1)) + 1 by omega, List.take_succ_cons]
    rw [dr, decide_eq_true (by omega), Bool.true_and, List.head?_cons]
    cases b : PySem.Builtin.Str.subAt x ⟨#[c]⟩ s with
    | true =>
      have := one.mp ⟨by omega, b⟩
      rw [List.getElem?_eq_getElem hs] at this
      rw [decide_eq_true this]
    | false =>
      refine (decide_eq_false fun z => ?_).symm
      have := (one.mpr (by rw [List.getElem?_eq_getElem hs]; exact z)).2
      rw [b] at this; cases this
  · rw [show e - s = 0 by omega, List.take_zero, decide_eq_false (by omega)]; rfl

/-! ### the marks that are no constants -/
def noMarks : List Nat := [32, 33, 34, 35, 36, 38, 39, 40, 41, 42, 43, 44, 45, 46, 47, 48, 49, 50, 51, 52, 53, 54, 55, 56, 57, 58, 59, 60, 61, 62, 63, 64, 65, 66, 67, 68, 69, 70, 71, 72, 73, 74, 75, 76, 77, 78, 79, 80, 81, 82, 83, 84, 85, 86, 87, 88, 89, 90, 91, 92, 93, 94, 95, 96, 97, 98, 99, 100, 101, 102, 103, 104, 105, 106, 107, 108, 109, 111, 112, 113, 114, 115, 116, 117, 118, 119, 120, 123, 124, 125, 126]
theorem no_marks {K : PySem.W.Frag} {mg : Str → Option Value} {C_Group : Addr} {C_BadGroup : Addr} {C_BadLetter : Addr} {C_BadText : Addr} {C_FORMS : Addr} {C_CONSTANTS : Addr} (T : Txt K mg w C_Group C_BadGroup C_BadLetter C_BadText C_FORMS C_CONSTANTS) : ∀ c ∈ noMarks, PySem.W.nsIn K C_CONSTANTS ⟨#[c]⟩ = some none := by
  unfold noMarks
  refine List.forall_mem_cons.mpr ⟨T.km_CONSTANTS_0, List.forall_mem_cons.mpr ⟨T.km_CONSTANTS_1, List.forall_mem_cons.mpr ⟨T.km_CONSTANTS_2, List.forall_mem_cons.mpr ⟨T.km_CONSTANTS_3, List.forall_mem_cons.mpr ⟨T.km_CONSTANTS_4, List.forall_mem_cons.mpr ⟨T.km_CONSTANTS_5, List.forall_mem_cons.mpr ⟨T.km_CONSTANTS_6, List.forall_mem_cons.mpr ⟨T.km_CONSTANTS_7, List.forall_mem_cons.mpr ⟨T.km_CONSTANTS_8, List.forall_mem_cons.mpr ⟨T.km_CONSTANTS_9, List.forall_mem_cons.mpr ⟨T.km_CONSTANTS_10, List.forall_mem_cons.mpr ⟨T.km_CONSTANTS_11, List.forall_mem_cons.mpr ⟨T.km_CONSTANTS_12, List.forall_mem_cons.mpr ⟨T.km_CONSTANTS_13, List.forall_mem_cons.mpr ⟨T.km_CONSTANTS_14, List.forall_mem_cons.mpr ⟨T.km_CONSTANTS_15, List.forall_mem_cons.mpr ⟨T.km_CONSTANTS_16, List.forall_mem_cons.mpr ⟨T.km_CONSTANTS_17, List.forall_mem_cons.mpr ⟨T.km_CONSTANTS_18, List.forall_mem_cons.mpr ⟨T.km_CONSTANTS_19, List.forall_mem_cons.mpr ⟨T.km_CONSTANTS_20, List.forall_mem_cons.mpr ⟨T.km_CONSTANTS_21, List.forall_mem_cons.mpr ⟨T.km_CONSTANTS_22, List.forall_mem_cons.mpr ⟨T.km_CONSTANTS_23, List.forall_mem_cons.mpr ⟨T.km_CONSTANTS_24, List.forall_mem_cons.mpr ⟨T.km_CONSTANTS_25, List.forall_mem_cons.mpr ⟨T.km_CONSTANTS_26, List.forall_mem_cons.mpr ⟨T.km_CONSTANTS_27, List.forall_mem_cons.mpr ⟨T.km_CONSTANTS_28, List.forall_mem_cons.mpr ⟨T.km_CONSTANTS_29, List.forall_mem_cons.mpr ⟨T.km_CONSTANTS_30, List.forall_mem_cons.mpr ⟨T.km_CONSTANTS_31, List.forall_mem_cons.mpr ⟨T.km_CONSTANTS_32, List.forall_mem_cons.mpr ⟨T.km_CONSTANTS_33, List.forall_mem_cons.mpr ⟨T.km_CONSTANTS_34, List.forall_mem_cons.mpr ⟨T.km_CONSTANTS_35, List.forall_mem_cons.mpr ⟨T.km_CONSTANTS_36, List.forall_mem_cons.mpr ⟨T.km_CONSTANTS_37, List.forall_mem_cons.mpr ⟨T.km_CONSTANTS_38, List.forall_mem_cons.mpr ⟨T.km_CONSTANTS_39, List.forall_mem_cons.mpr ⟨T.km_CONSTANTS_40, List.forall_mem_cons.mpr ⟨T.km_CONSTANTS_41, List.forall_mem_cons.mpr ⟨T.km_CONSTANTS_42, List.forall_mem_cons.mpr ⟨T.km_CONSTANTS_43, List.forall_mem_cons.mpr ⟨T.km_CONSTANTS_44, List.forall_mem_cons.mpr ⟨T.km_CONSTANTS_45, List.forall_mem_cons.mpr ⟨T.km_CONSTANTS_46, List.forall_mem_cons.mpr ⟨T.km_CONSTANTS_47, List.forall_mem_cons.mpr ⟨T.km_CONSTANTS_48, List.forall_mem_cons.mpr ⟨T.km_CONSTANTS_49, List.forall_mem_cons.mpr ⟨T.km_CONSTANTS_50, List.forall_mem_cons.mpr ⟨T.km_CONSTANTS_51, List.forall_mem_cons.mpr ⟨T.km_CONSTANTS_52, List.forall_mem_cons.mpr ⟨T.km_CONSTANTS_53, List.forall_mem_cons.mpr ⟨T.km_CONSTANTS_54, List.forall_mem_cons.mpr ⟨T.km_CONSTANTS_55, List.forall_mem_cons.mpr ⟨T.km_CONSTANTS_56, List.forall_mem_cons.mpr ⟨T.km_CONSTANTS_57, List.forall_mem_cons.mpr ⟨T.km_CONSTANTS_58, List.forall_mem_cons.mpr ⟨T.km_CONSTANTS_59, List.forall_mem_cons.mpr ⟨T.km_CONSTANTS_60, List.forall_mem_cons.mpr ⟨T.km_CONSTANTS_61, List.forall_mem_cons.mpr ⟨T.km_CONSTANTS_62, List.forall_mem_cons.mpr ⟨T.km_CONSTANTS_63, List.forall_mem_cons.mpr ⟨T.km_CONSTANTS_64, List.forall_mem_cons.mpr ⟨T.km_CONSTANTS_65, List.forall_mem_cons.mpr ⟨T.km_CONSTANTS_66, List.forall_mem_cons.mpr ⟨T.km_CONSTANTS_67, List.forall_mem_cons.mpr ⟨T.km_CONSTANTS_68, List.forall_mem_cons.mpr ⟨T.km_CONSTANTS_69, List.forall_mem_cons.mpr ⟨T.km_CONSTANTS_70, List.forall_mem_cons.mpr ⟨T.km_CONSTANTS_71, List.forall_mem_cons.mpr ⟨T.km_CONSTANTS_72, List.forall_mem_cons.mpr ⟨T.km_CONSTANTS_73, List.forall_mem_cons.mpr ⟨T.km_CONSTANTS_74, List.forall_mem_cons.mpr ⟨T.km_CONSTANTS_75, List.forall_mem_cons.mpr ⟨T.km_CONSTANTS_76, List.forall_mem_cons.mpr ⟨T.km_CONSTANTS_77, List.forall_mem_cons.mpr ⟨T.km_CONSTANTS_78, List.forall_mem_cons.mpr ⟨T.km_CONSTANTS_79, List.forall_mem_cons.mpr ⟨T.km_CONSTANTS_80, List.forall_mem_cons.mpr ⟨T.km_CONSTANTS_81, List.forall_mem_cons.mpr ⟨T.km_CONSTANTS_82, List.forall_mem_cons.mpr ⟨T.km_CONSTANTS_83, List.forall_mem_cons.mpr ⟨T.km_CONSTANTS_84, List.forall_mem_cons.mpr ⟨T.km_CONSTANTS_85, List.forall_mem_cons.mpr ⟨T.km_CONSTANTS_86, List.forall_mem_cons.mpr ⟨T.km_CONSTANTS_87, List.forall_mem_cons.mpr ⟨T.km_CONSTANTS_88, List.forall_mem_cons.mpr ⟨T.km_CONSTANTS_89, List.forall_mem_cons.mpr ⟨T.km_CONSTANTS_90, (fun _ h => nomatch h)⟩⟩⟩⟩⟩⟩⟩⟩⟩⟩⟩⟩⟩⟩⟩⟩⟩⟩⟩⟩⟩⟩⟩⟩⟩⟩⟩⟩⟩⟩⟩⟩⟩⟩⟩⟩⟩⟩⟩⟩⟩⟩⟩⟩⟩⟩⟩⟩⟩⟩⟩⟩⟩⟩⟩⟩⟩⟩⟩⟩⟩⟩⟩⟩⟩⟩⟩⟩⟩⟩⟩⟩⟩⟩⟩⟩⟩⟩⟩⟩⟩⟩⟩⟩⟩⟩⟩⟩⟩⟩⟩
theorem in_marks {c : Nat} (h : 32 ≤ c ∧ c ≤ 126 ∧ c ≠ 37) (h1 : c ≠ 110) (h2 : c ≠ 121) (h3 : c ≠ 122) : c ∈ noMarks := by
  have key : ∀ c : Fin 127, 32 ≤ c.val → c.val ≠ 37 → c.val ≠ 110 → c.val ≠ 121 → c.val ≠ 122 → c.val ∈ noMarks := by decide +kernel
  exact key ⟨c, by omega⟩ h.1 h.2.2 h1 h2 h3

/-! ### range(n), however big n is -/
theorem turn_long {P : Program} {w : World} {K : PySem.W.Frag} {tg : Expr} (it : Addr) (lo : Int) (n : Nat) : Turn P w K tg (Itr lo n) [it] it (fun i h => PySem.IsLongIter h it (lo + (i : Nat) * 1) ((n : Int) - (i : Nat)) 1) where
  mem := by simp
  obj := fun i h st b hb => by
    have e : b = it := by simpa using hb
    subst e
    exact ⟨_, st, fun v z => by
      have z' : Data.fields _ = Data.cell v := z
      cases z'⟩
  keep := fun i h h' st k => k it (by simp) _ st
  item := by
    intro X hP hw hK hc i pins s σ H E I hf st hg
    subst hP hw hK
    obtain ⟨f0, f1, f2, f3, f4, f5⟩ := hf it (by simp)
    have W := PySem.Walks.longrange (prog := X.prog) (w := X.w) (I.ok.hd hc) it lo 1 n
    refine W.item i s _ _ hg st fun v h' tk hv st' kk => ?_
    obtain ⟨t, rfl⟩ := hv
    have I1 : Inv X pins σ H { s with heap := h', toks := tk } := I.turned (fun b o hb e => kk b o (by simpa using hb) e) f0 f1 f3 f4 f5
    refine ⟨_, rfl, go_of (s := { s with heap := h', toks := tk }) (n := "longrange_iterator") st' rfl rfl (by decide) ⟨.int (lo + i), H, I1, ⟨t, ?_⟩, ⟨rfl, rfl⟩, st', fun b hb => (hf b hb).1⟩⟩
    rw [Int.mul_one]
  done := by
    intro X hP hw hK hc i pins s σ H E I hf st hg
    subst hP hw hK
    obtain ⟨f0, f1, f2, f3, f4, f5⟩ := hf it (by simp)
    exact PySem.wpAny_pyNext_long_end (I.ok.hd hc) st (by have : n ≤ i := hg; omega) fun h' eb => ⟨rfl, I.turned (t' := s.toks) (fun b o hb e => eb b o hb e) f0 f1 f3 f4 f5⟩
  self := fun _ _ _ _ _ st h => PySem.wpAny_pyIter_longiter st h
theorem range_itL {X : Cx} {tg : Expr} {pins : List (Addr × Obj)} {σ : L2.St} {H : Hp} {s : Shared} {R : It → Hp → Prop} {E : Value → Shared → Prop} {lo hi : Int} {t u v : Tok} {tk : Nat} (I : Inv X pins σ H s)
    (q : R (Itr lo (hi - lo).toNat) H) : wpAny (model X.prog X.w) X.A (pyIter (.ref s.heap.objs.size)) (PIE X pins σ tg R) E { s with heap := s.heap.push { cls := .type "range", data := .fields #[.int lo t, .int hi u, .int 1 v] }, toks := tk } := by
  cases hsm : PySem.Builtin.Range.small lo hi 1 with
  | true =>
    refine wpAny_pyIter_range (IsRange.new ..) hsm ?_
    have I1 : Inv X pins σ H { s with heap := s.heap.push { cls := .type "range", data := .fields #[.int lo t, .int hi u, .int 1 v] }, toks := tk } := I.kept fun b o e => Heap.get?_push_of_some _ e
    refine ⟨(s.heap.push { cls := .type "range", data := .fields #[.int lo t, .int hi u, .int 1 v] }).objs.size, [(s.heap.push { cls := .type "range", data := .fields #[.int lo t, .int hi u, .int 1 v] }).objs.size], _, _, H, rfl,
      I1.kept (t' := tk) fun b o e => Heap.get?_push_of_some _ e, turn_range _ lo (hi - lo).toNat, ?_, fun b hb => ?_, q⟩
    · have e1 : lo + ((0 : Nat) : Int) * 1 = lo := by simp
      have e2 : (((hi - lo).toNat : Nat) : Int) - ((0 : Nat) : Int) = Builtin.Range.rangeSize lo hi 1 := by rw [rangeSize_one]; split <;> omega
      show IsRangeIter _ _ (lo + ((0 : Nat) : Int) * 1) ((((hi - lo).toNat : Nat) : Int) - ((0 : Nat) : Int)) 1
      rw [e1, e2]
      exact Heap.get?_push_size _ rfl
    · have e : b = (s.heap.push { cls := .type "range", data := .fields #[.int lo t, .int hi u, .int 1 v] }).objs.size := by simpa using hb
      subst e
      exact I1.fpOk (Nat.le_refl _) (I1.hok.fresh (Nat.le_refl _))
  | false =>
    refine wpAny_pyIter_longrange (IsRange.new ..) hsm ?_
    have I1 : Inv X pins σ H { s with heap := s.heap.push { cls := .type "range", data := .fields #[.int lo t, .int hi u, .int 1 v] }, toks := tk } := I.kept fun b o e => Heap.get?_push_of_some _ e
    refine ⟨(s.heap.push { cls := .type "range", data := .fields #[.int lo t, .int hi u, .int 1 v] }).objs.size, [(s.heap.push { cls := .type "range", data := .fields #[.int lo t, .int hi u, .int 1 v] }).objs.size], _, _, H, rfl,
      I1.kept (t' := tk) fun b o e => Heap.get?_push_of_some _ e, turn_long _ lo (hi - lo).toNat, ?_, fun b hb => ?_, q⟩
    · have e1 : lo + ((0 : Nat) : Int) * 1 = lo := by simp
      have e2 : (((hi - lo).toNat : Nat) : Int) - ((0 : Nat) : Int) = Builtin.Range.rangeSize lo hi 1 := by rw [rangeSize_one]; split <;> omega
      show IsLongIter _ _ (lo + ((0 : Nat) : Int) * 1) ((((hi - lo).toNat : Nat) : Int) - ((0 : Nat) : Int)) 1
      rw [e1, e2]
      exact Heap.get?_push_size _ rfl
    · have e : b = (s.heap.push { cls := .type "range", data := .fields #[.int lo t, .int hi u, .int 1 v] }).objs.size := by simpa using hb
      subst e
      exact I1.fpOk (Nat.le_refl _) (I1.hok.fresh (Nat.le_refl _))
def iRngB (ta : TA) : TI := fun σ H R => ta σ H fun vs H1 => ∃ j : Int, vs = [.int j] ∧ R (Itr 0 j.toNat) H1
theorem pi_rangeB {X : Cx} {tg : Expr} {a : Expr} {ta : TA} {p pos : Pos} (hg : Gl X "range") (hm : X.mg "range" = none) (ha : PA X [a] ta) (hs : starEach [a] X.env = [(false, eval a X.env)] := by rfl) : PI X tg (.Call (.Name "range" p) [a] [] pos) (iRngB ta) := by
  refine ⟨fun pins s σ H R I h => ?_⟩
  refine Call_ (ld_blt I hg hm boot_range (PyProof.Rows.callWith_type1 (thn (ha.run pos pins s σ H _ I h) fun us s1 ⟨vs, H1, I1, r1, q1⟩ => ?_) hs rfl))
  obtain ⟨j, e, q⟩ := q1
  subst e
  cases r1 with
  | cons r rr =>
    cases rr
    obtain ⟨t, rfl⟩ := r
    exact call_range_1 (range_itL I1 (by simpa using q))

/-! ### number_at, integer_at, string_at -/
def win (z : Str) (s e : Nat) : List Nat := (z.cps.toList.drop s).take (e - s)
theorem win_len {z : Str} {s e : Nat} (he : e ≤ z.length) : (win z s e).length = e - s := by
  unfold win; rw [List.length_take, List.length_drop, len_tl]; omega
theorem win_drop {z : Str} {s e : Nat} (k : Nat) : (win z s e).drop k = win z (s + k) e := by
  unfold win; rw [List.drop_take, List.drop_drop]; congr 1; omega
theorem win_take {z : Str} {s e : Nat} (k : Nat) : (win z s e).take k = win z s (min e (s + k)) := by
  unfold win; rw [List.take_take]; congr 1; omega
theorem cutS_win {z : Str} {s e : Nat} (hs : s ≤ e) (he : e ≤ z.length) : (cutS z (some (s : Int)) (some (e : Int))).cps.toList = win z s e := by
  unfold cutS win
  have e1 : HT.sIx z.length 0 (some (s : Int)) = s := by unfold HT.sIx; simp only; split <;> omega
  have e2 : HT.sIx z.length z.length (some (e : Int)) = e := by unfold HT.sIx; simp only; split <;> omega
  rw [e1, e2]
def spNumAt (B : Addr) : Sp := fun vs H Q E => ∃ (z : Str) (s e m : Nat), vs = [.str z, .int s, .int e, .str ⟨#[m]⟩] ∧ s ≤ e ∧ e ≤ z.length ∧ z.length ≤ 1000000 ∧
  (∀ n k, rdNum m (win z s e) = some (n, k) → ∀ H' t, Same H H' → H' t = some (.tup [.int n, .int ((s + k : Nat) : Int)]) → Q (.ref t) H') ∧ (rdNum m (win z s e) = none → ∀ H', Same H H' → E (.ref B) none H')
section
variable {P : Program} {w : World} {K : PySem.W.Frag} {mg : Str → Option Value} {base : Heap}
theorem c_number_at {C_Group : Addr} {C_BadGroup : Addr} {C_BadLetter : Addr} {C_BadText : Addr} {C_FORMS : Addr} {C_CONSTANTS : Addr} (T : Txt K mg w C_Group C_BadGroup C_BadLetter C_BadText C_FORMS C_CONSTANTS) : CalX P w K mg base 2 "number_at" (spNumAt C_BadText) := by
  have c_is_decimal := c_is_decimal (P := P) (w := w) (base := base) T
  refine calX T.d_number_at sc_number_at (fun vs H Q E h => ?_) (fun f cdv A' outer s H vs Q E hr h => ?_)
  · obtain ⟨z, s, e, m, rfl, _⟩ := h; rfl
  obtain ⟨z, a, e, m, rfl, hs, he, hz, q, qe⟩ := h
  have sl := sizeLine_eq
  refine ⟨_, (pss_cons (ps_set (i := 4) sc_number_at.nd rfl (Or.inl rfl) (pe_bm PySem.F.plainAttrs_str PySem.F.slot_str_find PySem.F.type_str_find mt_find4 (pv 0) (pa_cons (pv 3) (pa_cons (pv 1) (pa_cons (pe_callB (call_min2 rfl) (by rfl) T.z_min (by decide +kernel) (pa_cons (pv 2) (pa_cons (pe_op op_add (pe_op op_add (pv 1) (pe_gc (by rfl) T.c_MOST_DIGITS)) pe_int) pa_nil))) pa_nil)))))
      (pss_cons (ps_if (PW.pt (pw_or (pt_cmpR op_lt (pv 4) pe_int (nomark _)) (pw_or1 (pt_not (pt_val (pe_c c_is_decimal hr (by omega) (by rfl) (pa_cons (pe_slice sl_str (pv 0) (po_some (pv 1)) (po_some (pv 4))) pa_nil))))))) (pss_one (ps_raise rfl (takes_of rfl rfl rfl rfl) (pmk_ok T.x_BadText (by rfl)))) pss_nil)
      (pss_one (ps_ret (pe_tup (pa_cons (pe_callTy call_int_str (by rfl) T.z_int (by decide +kernel) (pa_cons (pe_slice sl_str (pv 0) (po_some (pv 1)) (po_some (pv 4))) pa_nil)) (pa_cons (pe_op op_add (pv 4) pe_int) pa_nil))))))), ?_⟩
  walk_at "rds"
  have em : (if ((a : Int) + 60 + 1) < (e : Int) then ((a : Int) + 60 + 1) else (e : Int)) = ((min e (a + 61) : Nat) : Int) := by split <;> omega
  refine ⟨rfl, ?_⟩
  walk_at "rds"
  refine ⟨_, _, rfl, ?_⟩
  rw [em]
  refine ⟨_, _, _, _, rfl, rfl, ?_⟩
  rw [findIn_win (by omega) (by omega), show (z.cps.toList.drop a).take (min e (a + 61) - a) = (win z a e).take 61 by rw [win_take]; rfl]
  have hw : ((win z a e).take 61).length ≤ 61 := by rw [List.length_take]; omega
  have hwl := win_len (z := z) (s := a) he
  have hp : ((win z a e).take 61).takeWhile (· != m) = (win z a e).take (((win z a e).take 61).takeWhile (· != m)).length := by
    have h1 := List.prefix_iff_eq_take.mp (List.takeWhile_prefix (· != m) (l := (win z a e).take 61))
    refine h1.trans ?_
    rw [List.take_take]; congr 1
    have := (List.takeWhile_prefix (· != m) (l := (win z a e).take 61)).length_le
    omega
  unfold rdNum at q qe
  simp only at q qe
  generalize ((win z a e).take 61).takeWhile (· != m) = t at hp q qe
  have hw2 : ((win z a e).take 61).length ≤ (win z a e).length := by rw [List.length_take]; omega
  generalize ((win z a e).take 61).length = n at *
  by_cases g : t.length < n
  · rw [if_pos g]
    have hd : (cutS z (some (a : Int)) (some ((a + t.length : Nat) : Int))).cps.toList = t := by
      rw [cutS_win (by omega) (by omega), hp, show (((win z a e).take t.length).length) = t.length by rw [List.length_take]; omega, win_take, show min e (a + t.length) = a + t.length by omega]
    have hl : (cutS z (some (a : Int)) (some ((a + t.length : Nat) : Int))).length = t.length := by rw [← len_tl, hd]
    walk_at "rds"
    refine ⟨by omega, fun H1 s1 => ?_⟩
    rw [hd]
    cases hc : dcL t with
    | false =>
      rw [if_neg (fun z => by rw [hc] at z; cases z.2)] at qe
      walk_at "rds"
      exact qe rfl _ s1
    | true =>
      rw [if_pos ⟨g, hc⟩] at q
      obtain ⟨d1, d2, d3⟩ := dcL_iff.mp hc
      walk_at "rds"
      refine ⟨_, _, rfl, PySem.intText_digits (by rw [hd]; exact d2) (by rw [hd]; exact d1) (by omega), by omega, ?_⟩
      walk_at "rds"
      intro p hp
      rw [hd]
      exact q _ _ rfl _ p (s1.trans (same_upd hp)) (by rw [upd_same, show ((a + (t.length + 1) : Nat) : Int) = ((a + t.length : Nat) : Int) + 1 by omega])
  · rw [if_neg g]
    rw [if_neg (fun z => g z.1)] at qe
    walk_at "rds"
    exact qe rfl _ (Same.refl _)
def spIntAt (K : PySem.W.Frag) (B : Addr) : Sp := fun vs H Q E => ∃ (z : Str) (s e : Nat), vs = [.str z, .int s, .int e] ∧ s ≤ e ∧ e ≤ z.length ∧ z.length ≤ 1000000 ∧
  (∀ d k, rdInt (win z s e) = some (d, k) → ∀ H' t v, Same H H' → H' t = some (.tup [v, .int ((s + k : Nat) - 1 : Int)]) → Dt K H' none v d → Q (.ref t) H') ∧ (rdInt (win z s e) = none → ∀ H', Same H H' → E (.ref B) none H')
theorem c_integer_at {C_Group : Addr} {C_BadGroup : Addr} {C_BadLetter : Addr} {C_BadText : Addr} {C_FORMS : Addr} {C_CONSTANTS : Addr} (T : Txt K mg w C_Group C_BadGroup C_BadLetter C_BadText C_FORMS C_CONSTANTS) : CalX P w K mg base 3 "integer_at" (spIntAt K C_BadText) := by
  have c_number_at := c_number_at (P := P) (w := w) (base := base) T
  refine calX T.d_integer_at sc_integer_at (fun vs H Q E h => ?_) (fun f cdv A' outer s H vs Q E hr h => ?_)
  · obtain ⟨z, s, e, rfl, _⟩ := h; rfl
  obtain ⟨z, a, e, rfl, hs, he, hz, q, qe⟩ := h
  have sl := sizeLine_eq
  refine ⟨_, (pss_cons (ps_if (pt_not (pt_val (pe_bm PySem.F.plainAttrs_str PySem.F.slot_str_startswith PySem.F.type_str_startswith mt_startswith4 (pv 0) (pa_cons pe_str (pa_cons (pv 1) (pa_cons (pv 2) pa_nil)))))) (pss_one (ps_ret (pe_cX c_number_at hr (by omega) (by rfl) (fun σ => passAt (takes_of rfl rfl rfl rfl) σ) (pa_cons (pv 0) (pa_cons (pv 1) (pa_cons (pv 2) (pa_cons pe_str pa_nil))))))) pss_nil)
      (pss_cons (ps_asg (pe_cX c_number_at hr (by omega) (by rfl) (fun σ => passAt (takes_of rfl rfl rfl rfl) σ) (pa_cons (pv 0) (pa_cons (pe_op op_add (pv 1) pe_int) (pa_cons (pv 2) (pa_cons pe_str pa_nil))))) (pg_tup (by rfl) (pgs_cons (pg_name (i := 3) sc_integer_at.nd rfl (Or.inl rfl)) (pgs_cons (pg_name (i := 4) sc_integer_at.nd rfl (Or.inl rfl)) pgs_nil))))
      (pss_cons (ps_if (pt_cmpR op_eq (pv 3) pe_int (nomark _)) (pss_one (ps_raise rfl (takes_of rfl rfl rfl rfl) (pmk_ok T.x_BadText (by rfl)))) pss_nil)
      (pss_one (ps_ret (pe_tup (pa_cons (pe_un un_neg (pv 3)) (pa_cons (pv 4) pa_nil)))))))), ?_⟩
  walk_at "rds"
  refine ⟨rfl, ?_⟩
  walk_at "rds"
  refine ⟨_, _, _, _, rfl, rfl, ?_⟩
  have s45 : startsW z (Str.ofString "-") (a : Int) (e : Int) = decide ((win z a e).head? = some 45) := startsW_one he
  rw [s45]
  have hwl := win_len (z := z) (s := a) he
  by_cases g : (win z a e).head? = some 45
  · rw [decide_eq_true g]
    obtain ⟨r, hr'⟩ : ∃ r, win z a e = 45 :: r := by
      cases h : win z a e with
      | nil => rw [h] at g; cases g
      | cons c r => rw [h] at g; cases g; exact ⟨r, rfl⟩
    have hw := win_drop (z := z) (s := a) (e := e) 1
    rw [hr'] at hw hwl
    rw [List.length_cons] at hwl
    have hw : r = win z (a + 1) e := hw
    rw [hr'] at q qe
    subst hw
    walk_at "rds"
    refine ⟨z, a + 1, e, 59, rfl, by omega, he, hz, fun n k en H1 t s1 et => ?_, fun en => qe (by unfold rdInt; simp only [en])⟩
    have ei : rdInt (45 :: win z (a + 1) e) = if n = 0 then none else some (.int (-(n : Int)), k + 2) := by unfold rdInt; simp only [en]
    rw [ei] at q qe
    walk_at "rds"
    refine ⟨t, [.int n, .int ((a + 1 + k : Nat) : Int)], rfl, SqT.of et, rfl, _, _, rfl, _, _, rfl, rfl, ?_⟩
    walk_at "rds"
    by_cases n0 : n = 0
    · subst n0
      walk_at "rds"
      exact qe rfl _ s1
    · rw [if_neg n0] at q
      refine ifF (decide_eq_false fun z => n0 (by injection z with z; omega)) ?_
      walk_at "rds"
      intro p hp
      exact q _ _ rfl _ p _ (s1.trans (same_upd hp)) (by rw [upd_same, show (((a + (k + 2) : Nat) : Int) - 1) = ((a + 1 + k : Nat) : Int) by omega]) (.int _)
  · rw [decide_eq_false g]
    have ei : rdInt (win z a e) = match rdNum 59 (win z a e) with
        | some (n, k) => some (.int (n : Int), k + 1)
        | none => none := by
      cases h : win z a e with
      | nil => rfl
      | cons c r =>
        rw [h] at g
        unfold rdInt
        split
        · rename_i x y
          injection y with y1 y2
          exact absurd (by rw [y1]; rfl) g
        · rfl
    walk_at "rds"
    refine ⟨z, a, e, 59, rfl, by omega, he, hz, fun n k en H1 t s1 et => ?_, fun en => qe ?_⟩
    · exact q _ _ (by rw [ei, en]) _ t _ s1 (by rw [et, show (((a + (k + 1) : Nat) : Int) - 1) = ((a + k : Nat) : Int) by omega]) (.int _)
    · rw [ei, en]
def spStrAt (K : PySem.W.Frag) (B : Addr) : Sp := fun vs H Q E => ∃ (z : Str) (s e : Nat), vs = [.str z, .int s, .int e] ∧ s ≤ e ∧ e ≤ z.length ∧ z.length ≤ 1000000 ∧
  (∀ d k, rdStr (win z s e) = some (d, k) → ∀ H' t v, Same H H' → H' t = some (.tup [v, .int ((s + k : Nat) - 1 : Int)]) → Dt K H' none v d → Q (.ref t) H') ∧ (rdStr (win z s e) = none → ∀ H', Same H H' → E (.ref B) none H')
theorem str_of_tl {z : Str} {l : List Nat} (h : z.cps.toList = l) : z = ⟨l.toArray⟩ := by
  refine str_eq_l.mpr ?_
  rw [h]
theorem c_string_at {C_Group : Addr} {C_BadGroup : Addr} {C_BadLetter : Addr} {C_BadText : Addr} {C_FORMS : Addr} {C_CONSTANTS : Addr} (T : Txt K mg w C_Group C_BadGroup C_BadLetter C_BadText C_FORMS C_CONSTANTS) : CalX P w K mg base 3 "string_at" (spStrAt K C_BadText) := by
  have c_number_at := c_number_at (P := P) (w := w) (base := base) T
  have c_is_printable := c_is_printable (P := P) (w := w) (base := base) T
  refine calX T.d_string_at sc_string_at (fun vs H Q E h => ?_) (fun f cdv A' outer s H vs Q E hr h => ?_)
  · obtain ⟨z, s, e, rfl, _⟩ := h; rfl
  obtain ⟨z, a, e, rfl, hs, he, hz, q, qe⟩ := h
  have sl := sizeLine_eq
  have hwl := win_len (z := z) (s := a) he
  refine ⟨_, (pss_cons (ps_asg (pe_cX c_number_at hr (by omega) (by rfl) (fun σ => passAt (takes_of rfl rfl rfl rfl) σ) (pa_cons (pv 0) (pa_cons (pv 1) (pa_cons (pv 2) (pa_cons pe_str pa_nil))))) (pg_tup (by rfl) (pgs_cons (pg_name (i := 3) sc_string_at.nd rfl (Or.inl rfl)) (pgs_cons (pg_name (i := 4) sc_string_at.nd rfl (Or.inl rfl)) pgs_nil))))
      (pss_cons (ps_set (i := 5) sc_string_at.nd rfl (Or.inl rfl) (pe_op op_add (pv 4) (pv 3)))
      (pss_cons (ps_if (PW.pt (pw_or (pt_cmpR op_gt (pv 5) (pv 2) (nomark _)) (pw_or1 (pt_not (pt_val (pe_c c_is_printable hr (by omega) (by rfl) (pa_cons (pe_slice sl_str (pv 0) (po_some (pv 4)) (po_some (pv 5))) pa_nil))))))) (pss_one (ps_raise rfl (takes_of rfl rfl rfl rfl) (pmk_ok T.x_BadText (by rfl)))) pss_nil)
      (pss_one (ps_ret (pe_tup (pa_cons (pe_slice sl_str (pv 0) (po_some (pv 4)) (po_some (pv 5))) (pa_cons (pv 5) pa_nil)))))))), ?_⟩
  unfold rdStr at q qe
  walk_at "rds"
  refine ⟨z, a, e, 58, rfl, hs, he, hz, fun n k en H1 t s1 et => ?_, fun en => qe (by rw [en])⟩
  rw [en] at q qe
  obtain ⟨_, _, ek, _, kl⟩ := rdNum_inv en
  rw [hwl] at kl
  simp only [hwl] at q qe
  walk_at "rds"
  refine ⟨t, [.int n, .int ((a + k : Nat) : Int)], rfl, SqT.of et, rfl, _, _, rfl, _, _, rfl, rfl, ?_⟩
  walk_at "rds"
  by_cases g : a + k + n ≤ e
  · refine ifF (decide_eq_false (by omega)) ?_
    have hw : (cutS z (some ((a + k : Nat) : Int)) (some ((a + k + n : Nat) : Int))).cps.toList = ((win z a e).drop k).take n := by
      rw [cutS_win (by omega) (by omega), win_drop, win_take, show min e (a + k + n) = a + k + n by omega]
    have hn : (cutS z (some ((a + k : Nat) : Int)) (some ((a + k + n : Nat) : Int))).length = n := by
      rw [← len_tl, hw, List.length_take, List.length_drop, hwl]; omega
    rw [show (fun i j => V.int (i + j)) ((a + k : Nat) : Int) (n : Int) = V.int ((a + k + n : Nat) : Int) from congrArg V.int (by omega)]
    have hz2 := str_of_tl hw
    walk_at "rds"
    refine .inl ⟨_, rfl, by omega, fun H2 s2 => ?_⟩
    have hpr : isPr (cutS z (some ((a + k : Nat) : Int)) (some ((a + k + n : Nat) : Int))) = prL (((win z a e).drop k).take n) := by unfold isPr; rw [hw]; rfl
    rw [hpr]
    cases hc : prL (((win z a e).drop k).take n) with
    | false =>
      walk_at "rds"
      exact qe (if_neg (fun z => by rw [hc] at z; cases z.2)) _ (s1.trans s2)
    | true =>
      rw [if_pos ⟨by omega, hc⟩] at q
      walk_at "rds"
      intro p hp
      refine q _ _ rfl _ p _ ((s1.trans s2).trans (same_upd hp)) (by rw [upd_same, show (((a + (k + n + 1) : Nat) : Int) - 1) = ((a + k + n : Nat) : Int) by omega]) ?_
      rw [hz2]
      exact .str _ (by rw [← hz2]; omega)
  · refine ifT (decide_eq_true (by omega)) ?_
    walk_at "rds"
    exact qe (if_neg (by omega)) _ s1
/-! ### value_at, tuple_at -/
def spValAt (K : PySem.W.Frag) (B : Addr) (n : Nat) : Sp := fun vs H Q E => ∃ (z : Str) (s e : Nat), vs = [.str z, .int s, .int e, .int n] ∧ s ≤ e ∧ e ≤ z.length ∧ z.length ≤ 1000000 ∧ isPr z = true ∧
  (∀ d k, rdV n (win z s e) = some (d, k) → ∀ H' t v, Same H H' → H' t = some (.tup [v, .int ((s + k : Nat) : Int)]) → Dt K H' none v d → Q (.ref t) H') ∧ (rdV n (win z s e) = none → ∀ H', Same H H' → E (.ref B) none H')
def spTupAt (K : PySem.W.Frag) (B : Addr) : Nat → Sp
  | 0 => fun _ _ _ _ => False
  | n + 1 => fun vs H Q E => ∃ (z : Str) (s e : Nat), vs = [.str z, .int s, .int e, .int ((n + 1 : Nat) : Int)] ∧ s ≤ e ∧ e ≤ z.length ∧ z.length ≤ 1000000 ∧ isPr z = true ∧
    (∀ d k, rdTup (rdV n) (win z s e) = some (d, k) → ∀ H' t v, Same H H' → H' t = some (.tup [v, .int ((s + k : Nat) - 1 : Int)]) → Dt K H' none v d → Q (.ref t) H') ∧ (rdTup (rdV n) (win z s e) = none → ∀ H', Same H H' → E (.ref B) none H')
theorem c_value_at {C_Group : Addr} {C_BadGroup : Addr} {C_BadLetter : Addr} {C_BadText : Addr} {C_FORMS : Addr} {C_CONSTANTS : Addr} (T : Txt K mg w C_Group C_BadGroup C_BadLetter C_BadText C_FORMS C_CONSTANTS) (n L : Nat) (hL : 3 ≤ L) (c_tuple_at : CalX P w K mg base L "tuple_at" (spTupAt K C_BadText n)) : CalX P w K mg base (L + 1) "value_at" (spValAt K C_BadText n) := by
  have c_integer_at := c_integer_at (P := P) (w := w) (base := base) T
  have c_string_at := c_string_at (P := P) (w := w) (base := base) T
  refine calX T.d_value_at sc_value_at (fun vs H Q E h => ?_) (fun f cdv A' outer s H vs Q E hr h => ?_)
  · obtain ⟨z, s, e, rfl, _⟩ := h; rfl
  obtain ⟨z, a, e, rfl, hs, he, hz, hp, q, qe⟩ := h
  have sl := sizeLine_eq
  have hwl := win_len (z := z) (s := a) he
  refine ⟨_, (pss_cons (ps_if (pt_cmpR op_ge (pv 1) (pv 2) (nomark _)) (pss_one (ps_raise rfl (takes_of rfl rfl rfl rfl) (pmk_ok T.x_BadText (by rfl)))) pss_nil)
      (pss_cons (ps_set (i := 4) sc_value_at.nd rfl (Or.inl rfl) (pe_ix ix_str (pv 0) (pv 1) (fun _ _ => rfl)))
      (pss_cons (ps_if (pt_cmpR (kdin T.kd_CONSTANTS) (pv 4) (pe_gc (v := .ref C_CONSTANTS) (by rfl) ⟨_, T.g_CONSTANTS, rfl⟩) (by rfl)) (pss_one (ps_ret (pe_tup (pa_cons (pe_ix ix_kdict (pe_gc (v := .ref C_CONSTANTS) (by rfl) ⟨_, T.g_CONSTANTS, rfl⟩) (pv 4) (fun _ _ => rfl)) (pa_cons (pe_op op_add (pv 1) pe_int) pa_nil))))) pss_nil)
      (pss_cons (ps_if (pt_cmpR op_eq (pv 4) pe_str (nomark _)) (pss_one (ps_ret (pe_cX c_integer_at hr (by omega) (by rfl) (fun σ => passAt (takes_of rfl rfl rfl rfl) σ) (pa_cons (pv 0) (pa_cons (pe_op op_add (pv 1) pe_int) (pa_cons (pv 2) pa_nil)))))) pss_nil)
      (pss_cons (ps_if (pt_cmpR op_eq (pv 4) pe_str (nomark _)) (pss_one (ps_ret (pe_cX c_string_at hr (by omega) (by rfl) (fun σ => passAt (takes_of rfl rfl rfl rfl) σ) (pa_cons (pv 0) (pa_cons (pe_op op_add (pv 1) pe_int) (pa_cons (pv 2) pa_nil)))))) pss_nil)
      (pss_cons (ps_if (PW.pt (pw_and (pt_cmpR op_eq (pv 4) pe_str (nomark _)) (pw_and1 (pt_cmpR op_gt (pv 3) pe_int (nomark _))))) (pss_one (ps_ret (pe_cX c_tuple_at hr (by omega) (by rfl) (fun σ => passAt (takes_of rfl rfl rfl rfl) σ) (pa_cons (pv 0) (pa_cons (pe_op op_add (pv 1) pe_int) (pa_cons (pv 2) (pa_cons (pv 3) pa_nil))))))) pss_nil)
      (pss_one (ps_raise rfl (takes_of rfl rfl rfl rfl) (pmk_ok T.x_BadText (by rfl)))))))))), ?_⟩
  walk_at "rds"
  by_cases g : a < e
  · refine ifF (decide_eq_false (by omega)) ?_
    obtain ⟨c, hc⟩ : ∃ c, z.cps.toList[a]? = some c := ⟨_, List.getElem?_eq_getElem (by rw [len_tl]; omega)⟩
    have hw : win z a e = c :: win z (a + 1) e := by
      unfold win
      obtain ⟨h1, h2⟩ := List.getElem?_eq_some_iff.mp hc
      rw [List.drop_eq_getElem_cons h1, h2, show e - a = (e - (a + 1)) + 1 by omega, List.take_succ_cons]
    have hcp := isPr_iff.mp hp c (List.mem_of_getElem? hc)
    rw [hw] at q qe
    walk_at "rds"
    refine ⟨z, _, c, rfl, rfl, by omega, atI_nat hc, ?_⟩
    walk_at "rds"
    by_cases gc : c = 110 ∨ c = 121 ∨ c = 122
    · obtain ⟨v, d, kd, dd, ed⟩ : ∃ v d, KDct K w C_CONSTANTS ⟨#[c]⟩ v ∧ (∀ H', Dt K H' none v d) ∧ rdV n (c :: win z (a + 1) e) = some (d, 1) := by
        rcases gc with rfl | rfl | rfl
        · exact ⟨_, _, T.kc_CONSTANTS_0, fun _ => .non, by cases n <;> rfl⟩
        · exact ⟨_, _, T.kc_CONSTANTS_1, fun _ => .bl true, by cases n <;> rfl⟩
        · exact ⟨_, _, T.kc_CONSTANTS_2, fun _ => .bl false, by cases n <;> rfl⟩
      obtain ⟨u, hu⟩ : ∃ u, PySem.W.nsIn K C_CONSTANTS ⟨#[c]⟩ = some (some u) := by
        obtain ⟨_, _, u, _, _, hu, _⟩ := kd
        exact ⟨u, hu⟩
      refine ⟨_, some u, rfl, rfl, hu, ?_⟩
      walk_at "rds"
      refine ⟨_, _, v, rfl, rfl, kd, ?_⟩
      walk_at "rds"
      intro p hp
      exact q _ _ ed _ p _ (same_upd hp) (by rw [upd_same]; rfl) (dd _)
    · have hn := no_marks T c (in_marks hcp (by omega) (by omega) (by omega))
      refine ⟨_, none, rfl, rfl, hn, ?_⟩
      have rb : ∀ t : List Nat → Option (PyData × Nat), ∀ r, rdB t (c :: r) = if c = 105 then rdInt r else if c = 115 then rdStr r else if c = 116 then t r else none := by
        intro t r
        unfold rdB
        simp only
        rw [if_neg (by omega), if_neg (by omega), if_neg (by omega)]
      walk_at "rds"
      have dS : ∀ m : Nat, decide (V.str ⟨#[c]⟩ = V.str ⟨#[m]⟩) = decide (c = m) := by
        intro m
        by_cases h : c = m
        · subst h; rw [decide_eq_true rfl, decide_eq_true rfl]
        · rw [decide_eq_false h, decide_eq_false]
          intro z
          have := congrArg (fun v => match v with | V.str s => s.cps.toList | _ => []) z
          have : [c] = [m] := this
          exact h (by simpa using this)
      by_cases g5 : c = 105
      · subst g5
        have ed : rdV n (105 :: win z (a + 1) e) = rdInt (win z (a + 1) e) := by cases n <;> rfl
        rw [ed] at q qe
        refine ifT ((dS 105).trans (decide_eq_true rfl)) ?_
        walk_at "rds"
        refine ⟨z, a + 1, e, rfl, by omega, he, hz, fun d k ek H1 t v s1 et dv => ?_, qe⟩
        exact q _ _ ek _ t _ s1 (by rw [et, show (((a + 1 + k : Nat) : Int) - 1) = ((a + k : Nat) : Int) by omega]) dv
      refine ifF ((dS 105).trans (decide_eq_false g5)) ?_
      walk_at "rds"
      by_cases g6 : c = 115
      · subst g6
        have ed : rdV n (115 :: win z (a + 1) e) = rdStr (win z (a + 1) e) := by cases n <;> rfl
        rw [ed] at q qe
        refine ifT ((dS 115).trans (decide_eq_true rfl)) ?_
        walk_at "rds"
        refine ⟨z, a + 1, e, rfl, by omega, he, hz, fun d k ek H1 t v s1 et dv => ?_, qe⟩
        exact q _ _ ek _ t _ s1 (by rw [et, show (((a + 1 + k : Nat) : Int) - 1) = ((a + k : Nat) : Int) by omega]) dv
      refine ifF ((dS 115).trans (decide_eq_false g6)) ?_
      walk_at "rds"
      by_cases g7 : c = 116
      · subst g7
        refine ifT ((dS 116).trans (decide_eq_true rfl)) ?_
        cases n with
        | zero =>
          walk_at "rds"
          refine ifF rfl ?_
          walk_at "rds"
          exact qe rfl _ (Same.refl _)
        | succ n =>
          have ed : rdV (n + 1) (116 :: win z (a + 1) e) = rdTup (rdV n) (win z (a + 1) e) := rfl
          rw [ed] at q qe
          walk_at "rds"
          refine ifT (decide_eq_true (by omega)) ?_
          walk_at "rds"
          refine ⟨z, a + 1, e, rfl, by omega, he, hz, hp, fun d k ek H1 t v s1 et dv => ?_, qe⟩
          exact q _ _ ek _ t _ s1 (by rw [et, show (((a + 1 + k : Nat) : Int) - 1) = ((a + k : Nat) : Int) by omega]) dv
      refine ifF ((dS 116).trans (decide_eq_false g7)) ?_
      walk_at "rds"
      refine qe ?_ _ (Same.refl _)
      cases n with
      | zero => exact (rb _ _).trans (by rw [if_neg g5, if_neg g6, if_neg g7])
      | succ n => exact (rb _ _).trans (by rw [if_neg g5, if_neg g6, if_neg g7])
  · refine ifT (decide_eq_true (by omega)) ?_
    walk_at "rds"
    refine qe ?_ _ (Same.refl _)
    rw [List.eq_nil_of_length_eq_zero (show (win z a e).length = 0 by omega)]
    cases n <;> rfl
end

/-! ### tuple_at, and all of them -/
def spValP (K : PySem.W.Frag) (B : Addr) : Nat → Sp
  | 0 => fun _ _ _ _ => False
  | n + 1 => spValAt K B n
section
variable {P : Program} {w : World} {K : PySem.W.Frag} {mg : Str → Option Value} {base : Heap}
theorem c_tuple_at {C_Group : Addr} {C_BadGroup : Addr} {C_BadLetter : Addr} {C_BadText : Addr} {C_FORMS : Addr} {C_CONSTANTS : Addr} (T : Txt K mg w C_Group C_BadGroup C_BadLetter C_BadText C_FORMS C_CONSTANTS) (n L : Nat) (hL : 2 ≤ L) (c_value_at : CalX P w K mg base L "value_at" (spValP K C_BadText n)) : CalX P w K mg base (L + 1) "tuple_at" (spTupAt K C_BadText n) := by
  have c_number_at := c_number_at (P := P) (w := w) (base := base) T
  cases n with
  | zero => exact calX T.d_tuple_at sc_tuple_at (fun vs H Q E h => h.elim) (fun f cdv A' outer s H vs Q E hr h => h.elim)
  | succ n =>
  refine calX T.d_tuple_at sc_tuple_at (fun vs H Q E h => ?_) (fun f cdv A' outer s H vs Q E hr h => ?_)
  · obtain ⟨z, s, e, rfl, _⟩ := h; rfl
  obtain ⟨z, a, e, rfl, hs, he, hz, hp, q, qe⟩ := h
  have sl := sizeLine_eq
  have hwl := win_len (z := z) (s := a) he
  refine ⟨_, (pss_cons (ps_asg (pe_cX c_number_at hr (by omega) (by rfl) (fun σ => passAt (takes_of rfl rfl rfl rfl) σ) (pa_cons (pv 0) (pa_cons (pv 1) (pa_cons (pv 2) (pa_cons pe_str pa_nil))))) (pg_tup (by rfl) (pgs_cons (pg_name (i := 4) sc_tuple_at.nd rfl (Or.inl rfl)) (pgs_cons (pg_name (i := 5) sc_tuple_at.nd rfl (Or.inl rfl)) pgs_nil))))
      (pss_cons (ps_set (i := 6) sc_tuple_at.nd rfl (Or.inl rfl) (pe_lst pa_nil))
      (pss_cons (ps_for (passes_of rfl) rfl (pi_rangeB (by rfl) T.z_range (pa_cons (pv 4) pa_nil)) (pg_name (i := 7) sc_tuple_at.nd rfl (Or.inl rfl)) (pss_cons (ps_asg (pe_cX c_value_at hr (by omega) (by rfl) (fun σ => passAt (takes_of rfl rfl rfl rfl) σ) (pa_cons (pv 0) (pa_cons (pv 5) (pa_cons (pv 2) (pa_cons (pe_op op_sub (pv 3) pe_int) pa_nil))))) (pg_tup (by rfl) (pgs_cons (pg_name (i := 8) sc_tuple_at.nd rfl (Or.inl rfl)) (pgs_cons (pg_name (i := 5) sc_tuple_at.nd rfl (Or.inl rfl)) pgs_nil))))
      (pss_one (ps_expr (pe_bm PySem.F.plainAttrs_list PySem.F.slot_list_append PySem.F.type_list_append mt_append (pv 6) (pa_cons (pv 8) pa_nil))))))
      (pss_one (ps_ret (pe_tup (pa_cons (pe_callTy call_tuple_of (by rfl) T.z_tuple (by decide +kernel) (pa_cons (pv 6) pa_nil)) (pa_cons (pv 5) pa_nil)))))))), ?_⟩
  unfold rdTup at q qe
  walk_at "rds"
  refine ⟨z, a, e, 58, rfl, hs, he, hz, fun m k em H1 t s1 et => ?_, fun en => qe (by rw [en])⟩
  rw [em] at q qe
  obtain ⟨_, _, ek, _, kl⟩ := rdNum_inv em
  rw [hwl] at kl
  simp only [win_drop] at q qe
  walk_at "rds"
  refine ⟨t, [.int m, .int ((a + k : Nat) : Int)], rfl, SqT.of et, rfl, _, _, rfl, _, _, rfl, rfl, ?_⟩
  walk_at "rds"
  intro l hl
  have s2 := s1.trans (same_upd (o := .lst []) hl)
  have hlH : H l = none := by
    cases hh : H l with
    | none => rfl
    | some o => rw [s1 _ _ hh] at hl; cases hl
  have el : upd H1 l (.lst []) l = some (.lst []) := upd_same
  generalize upd H1 l (.lst []) = G at s2 el
  walk_at "rds"
  refine for_it walk_range (Pv := fun i σ H' => ∃ (ds : List PyData) (xs : List V) (j : Nat) (y y' : Option V), σ = [some (.str z), some (.int a), some (.int e), some (.int ((n + 1 : Nat) : Int)), some (.int m), some (.int ((a + k + j : Nat) : Int)), some (.ref l), y, y'] ∧ Same H H' ∧ H' l = some (.lst xs) ∧ DtAll K H' none xs ds ∧ noLs ds = true ∧ xs.length ≤ j ∧ a + k + j ≤ e ∧
      rdL (rdV n) m (win z (a + k) e) = match rdL (rdV n) (m - i) (win z (a + k + j) e) with
        | none => none
        | some (ds', j') => some (ds ++ ds', j + j'))
    ⟨[], [], 0, none, none, rfl, s2, el, .nil, rfl, Nat.le_refl _, by omega, by
      cases rdL (rdV n) m (win z (a + k) e) with
      | none => rfl
      | some p => simp⟩ (fun _ _ _ _ _ => trivial) (fun i x σ H3 H4 hi hp' hy => ?_) (fun σ H3 hp' => ?_)
  · obtain ⟨ds, xs, j, y, y', rfl, s3, el3, hx, nl, hlj, hje, er⟩ := hp'
    obtain ⟨rfl, rfl⟩ := hy
    have hi' : i < m := by omega
    rw [show rdL (rdV n) (m - i) (win z (a + k + j) e) = rdL (rdV n) ((m - (i + 1)) + 1) (win z (a + k + j) e) by rw [show m - i = (m - (i + 1)) + 1 by omega], rdL_cons] at er
    walk_at "rds"
    refine ⟨z, a + k + j, e, congrArg (fun x => [V.str z, V.int ((a + k + j : Nat) : Int), V.int e, V.int x]) (show ((n + 1 : Nat) : Int) - 1 = (n : Int) by omega), hje, he, hz, hp, fun d k2 ek H5 t2 v s5 et2 dv => ?_, fun ek H5 s5 => ?_⟩
    · obtain ⟨r, e1, e2, okd, _⟩ := rdV_inv _ _ _ _ ek
      have hwj := win_len (z := z) (s := a + k + j) he
      have pos := txD_pos okd
      have kle : k2 ≤ e - (a + k + j) := by rw [← hwj, e1, e2, List.length_append]; omega
      rw [len_tl] at e2
      rw [ek] at er
      simp only [win_drop] at er
      have el5 := s5 _ _ el3
      walk_at "rds"
      refine ⟨t2, [v, .int ((a + k + j + k2 : Nat) : Int)], rfl, SqT.of et2, rfl, _, _, rfl, _, _, rfl, rfl, ?_⟩
      walk_at "rds"
      refine ⟨.inl ⟨rfl, _, sq el5⟩, ?_⟩
      walk_at "rds"
      refine ⟨l, xs, v, rfl, rfl, el5, by omega, ?_⟩
      have s6 : Same H (upd H5 l (.lst (xs ++ [v]))) := same_mut (s3.trans s5) hlH
      have tp := tp_put (ys := xs ++ [v]) el5
      have nl2 : noLs (ds ++ [d]) = true := noLs_all fun x hx => by
        rcases List.mem_append.mp hx with hx | hx
        · exact noLs_mem nl hx
        · rw [List.mem_singleton.mp hx]; exact okd.noL
      have hx2 := DtAll.keep (B := none) tp _ _ nl2 ((hx.on s5).snoc dv)
      refine ⟨ds ++ [d], xs ++ [v], j + k2, some (.int (0 + (i : Int))), some v, ?_, s6, upd_same, hx2, nl2, by rw [List.length_append]; show xs.length + 1 ≤ _; omega, by omega, ?_⟩
      · rw [show a + k + (j + k2) = a + k + j + k2 by omega]; rfl
      · rw [er, show a + k + (j + k2) = a + k + j + k2 by omega]
        cases rdL (rdV n) (m - (i + 1)) (win z (a + k + j + k2) e) with
        | none => rfl
        | some p => simp [Nat.add_assoc]
    · rw [ek] at er
      exact qe (by rw [er]) _ (s3.trans s5)
  · obtain ⟨ds, xs, j, y, y', rfl, s3, el3, hx, nl, hlj, hje, er⟩ := hp'
    rw [Int.toNat_natCast, Nat.sub_self, rdL] at er
    walk_at "rds"
    refine ⟨l, xs, rfl, .inl ⟨sq el3, fun t5 ht5 => ?_⟩⟩
    have s5 := s3.trans (same_upd (o := .tup xs) ht5)
    have dt : Dt K (upd H3 t5 (.tup xs)) none (.ref t5) (.tuple ds) := .tup (.inl upd_same) (hx.on (same_upd ht5))
    generalize upd H3 t5 (.tup xs) = H6 at s5 dt
    walk_at "rds"
    intro p hp6
    refine q (.tuple (ds ++ [])) _ (by rw [er]) _ p _ (s5.trans (same_upd hp6)) (by rw [upd_same, show (((a + (k + (j + 0) + 1) : Nat) : Int) - 1) = ((a + k + j : Nat) : Int) by omega]) ?_
    rw [List.append_nil]
    exact dt.on (same_upd hp6)
theorem c_value_at0 {C_Group : Addr} {C_BadGroup : Addr} {C_BadLetter : Addr} {C_BadText : Addr} {C_FORMS : Addr} {C_CONSTANTS : Addr} (T : Txt K mg w C_Group C_BadGroup C_BadLetter C_BadText C_FORMS C_CONSTANTS) : CalX P w K mg base 3 "value_at" (fun _ _ _ _ => False) :=
  calX T.d_value_at sc_value_at (fun vs H Q E h => h.elim) (fun f cdv A' outer s H vs Q E hr h => h.elim)
theorem c_vals {C_Group : Addr} {C_BadGroup : Addr} {C_BadLetter : Addr} {C_BadText : Addr} {C_FORMS : Addr} {C_CONSTANTS : Addr} (T : Txt K mg w C_Group C_BadGroup C_BadLetter C_BadText C_FORMS C_CONSTANTS) : ∀ n : Nat, CalX P w K mg base (2 * n + 4) "tuple_at" (spTupAt K C_BadText n) ∧ CalX P w K mg base (2 * n + 5) "value_at" (spValAt K C_BadText n)
  | 0 => by
    have h : CalX P w K mg base 4 "tuple_at" (spTupAt K C_BadText 0) := c_tuple_at T 0 3 (by omega) (c_value_at0 T)
    exact ⟨h, c_value_at T 0 4 (by omega) h⟩
  | n + 1 => by
    have h : CalX P w K mg base (2 * n + 6) "tuple_at" (spTupAt K C_BadText (n + 1)) := c_tuple_at T (n + 1) (2 * n + 5) (by omega) (c_vals T n).2
    exact ⟨h, c_value_at T (n + 1) (2 * n + 6) (by omega) h⟩
/-! ### read_value -/
def rdWin (z : Str) (s : Nat) : List Nat := win z s (min z.length (s + 100000))
def rdAt (z : Str) (i : Int) : Option (PyData × Nat) := if 0 ≤ i ∧ i ≤ (z.length : Int) then rdV 12 (rdWin z i.toNat) else none
def spRead (K : PySem.W.Frag) (B : Addr) : Sp := fun vs H Q E => ∃ (v x : V), vs = [v, x] ∧
  ((∃ (z : Str) (i : Int), v = .str z ∧ x = .int i ∧ z.length ≤ 1000000 ∧ isPr z = true ∧
    (∀ d k, rdAt z i = some (d, k) → ∀ H' t u, Same H H' → H' t = some (.tup [u, .int (i + k)]) → Dt K H' none u d → Q (.ref t) H') ∧ (rdAt z i = none → ∀ H', Same H H' → E (.ref B) none H')) ∨
   (((∃ z, v = .str z ∧ z.length ≤ 1000000 ∧ NoInt K H x) ∨ NoStr K H v) ∧ ∀ H', Same H H' → E (.ref B) none H'))
theorem c_read_value {C_Group : Addr} {C_BadGroup : Addr} {C_BadLetter : Addr} {C_BadText : Addr} {C_FORMS : Addr} {C_CONSTANTS : Addr} (T : Txt K mg w C_Group C_BadGroup C_BadLetter C_BadText C_FORMS C_CONSTANTS) : CalX P w K mg base 30 "read_value" (spRead K C_BadText) := by
  have c_value_at := (c_vals (P := P) (w := w) (base := base) T 12).2
  have c_is_integer := c_is_integer (P := P) (w := w) (base := base) T
  refine calX T.d_read_value sc_read_value (fun vs H Q E h => ?_) (fun f cdv A' outer s H vs Q E hr h => ?_)
  · obtain ⟨v, x, rfl, _⟩ := h; rfl
  obtain ⟨v, x, rfl, h⟩ := h
  have sl := sizeLine_eq
  refine ⟨_, (pss_cons (ps_if (PW.pt (pw_or (pt_not (pt_val (pe_callB (kisi (K := K)) (by rfl) T.z_isinstance (by decide +kernel) (pa_cons (pv 0) (pa_cons (pe_bltn (v := .ty "str") (by rfl) T.z_str (by decide +kernel) rfl) pa_nil))))) (pw_or1 (pt_not (pt_val (pe_c c_is_integer hr (by omega) (by rfl) (pa_cons (pv 1) (pa_cons pe_int (pa_cons (pe_callB call_len_str (by rfl) T.z_len (by decide +kernel) (pa_cons (pv 0) pa_nil)) pa_nil))))))))) (pss_one (ps_raise rfl (takes_of rfl rfl rfl rfl) (pmk_ok T.x_BadText (by rfl)))) pss_nil)
      (pss_one (ps_ret (pe_cX c_value_at hr (by omega) (by rfl) (fun σ => passAt (takes_of rfl rfl rfl rfl) σ) (pa_cons (pv 0) (pa_cons (pv 1) (pa_cons (pe_callB (call_min2 rfl) (by rfl) T.z_min (by decide +kernel) (pa_cons (pe_callB call_len_str (by rfl) T.z_len (by decide +kernel) (pa_cons (pv 0) pa_nil)) (pa_cons (pe_op op_add (pv 1) (pe_gc (by rfl) T.c_MOST_LENGTH)) pa_nil))) (pa_cons (pe_gc (by rfl) T.c_MOST_DEPTH) pa_nil)))))))), ?_⟩
  rcases h with ⟨z, i, rfl, rfl, hz, hp, q, qe⟩ | ⟨h, qe⟩
  · walk_at "rds"
    walk_at "isi"
    walk_at "rds"
    refine ⟨_, 0, (z.length : Int), rfl, .inl ⟨i, rfl, ?_⟩⟩
    unfold rdAt at q qe
    by_cases g : 0 ≤ i ∧ i ≤ (z.length : Int)
    · rw [decide_eq_true g]
      rw [if_pos g] at q qe
      obtain ⟨i, rfl⟩ := Int.eq_ofNat_of_zero_le g.1
      have em : (if ((i : Int) + 100000) < (z.length : Int) then ((i : Int) + 100000) else (z.length : Int)) = ((min z.length (i + 100000) : Nat) : Int) := by split <;> omega
      walk_at "rds"
      refine ⟨_, _, rfl, ?_⟩
      rw [em]
      refine ⟨z, i, min z.length (i + 100000), rfl, by omega, by omega, hz, hp, fun d k ek H' t u s1 et du => ?_, fun ek => qe ek⟩
      exact q d k ek H' t u s1 (by rw [et, show (((i + k : Nat)) : Int) = (i : Int) + (k : Int) by omega]) du
    · rw [decide_eq_false g]
      rw [if_neg g] at qe
      walk_at "rds"
      exact qe rfl _ (Same.refl _)
  · rcases h with ⟨z, rfl, hz, ⟨T', ty, hk⟩⟩ | ⟨T', ty, hk⟩
    · walk_at "rds"
      walk_at "isi"
      walk_at "rds"
      refine ⟨_, 0, (z.length : Int), rfl, .inr ⟨⟨T', ty, hk⟩, ?_⟩⟩
      walk_at "rds"
      exact qe _ (Same.refl _)
    · walk_at "rds"
      refine ⟨_, .ty _, _, _, false, rfl, .ty _, ty, kit_ty hk, ?_⟩
      walk_at "rds"
      exact qe _ (Same.refl _)
end

/-! ### texts are printable, and begin no tuple beyond all bounds -/
theorem prC_dg {c : Nat} (h : 48 ≤ c ∧ c ≤ 57) : prC c = true := by
  unfold prC
  simp only [Bool.and_eq_true, decide_eq_true_eq, bne_iff_ne]
  omega
theorem pr_num (n : Nat) : prL (TL.numL n) = true := List.all_eq_true.mpr fun c hc => prC_dg (TL.numL_digits n c hc)
theorem prL_app {a b : List Nat} : prL (a ++ b) = (prL a && prL b) := by unfold prL; rw [List.all_append]
theorem prL_cons {c : Nat} {b : List Nat} : prL (c :: b) = (prC c && prL b) := by unfold prL; rw [List.all_cons]
mutual
theorem txD_pr : ∀ {d : PyData}, OkD d → prL (txD d).cps.toList = true
  | .none, _ => by rw [txD_sg rfl]; decide
  | .bool b, _ => by rw [txD_sg rfl]; cases b <;> decide
  | .int i, h => by
    by_cases h0 : 0 ≤ i
    · rw [int_tl h h0, prL_cons, prL_app, pr_num]; decide
    · rw [neg_tl h (by omega), prL_cons, prL_cons, prL_app, pr_num]; decide
  | .str z, h => by
    rw [str_tl h, prL_cons, prL_app, pr_num, prL_cons, show prL z.cps.toList = true from OkD_str.mp h]; decide
  | .tuple ds, h => by
    rw [OkD] at h
    rw [tup_tl, prL_cons, prL_app, pr_num, prL_cons, txL_pr h]; decide
  | .list ds, h => by rw [OkD_sg rfl] at h; cases h
  | .dict ds, h => by rw [OkD_sg rfl] at h; cases h
theorem txL_pr : ∀ {ds : List PyData}, OkL ds → prL (txL ds) = true
  | [], _ => by rw [txL]; rfl
  | d :: r, h => by
    rw [OkL] at h
    rw [txL, prL_app, txD_pr h.1, txL_pr h.2]; rfl
end
theorem txD_head {d : PyData} (ok : OkD d) (hd : isTup d = false) (r : List Nat) : ∀ r', (txD d).cps.toList ++ r = 116 :: r' → False := by
  intro r' h
  cases d with
  | none => rw [txD_sg rfl] at h; exact absurd (congrArg List.head? h) (by show ¬ (some 110 = some 116); decide)
  | bool b =>
    rw [txD_sg rfl] at h
    cases b with
    | true => exact absurd (congrArg List.head? h) (by show ¬ (some 121 = some 116); decide)
    | false => exact absurd (congrArg List.head? h) (by show ¬ (some 122 = some 116); decide)
  | int i =>
    by_cases h0 : 0 ≤ i
    · rw [int_tl ok h0] at h; injection h with h _; omega
    · rw [neg_tl ok (by omega)] at h; injection h with h _; omega
  | str z => rw [str_tl ok] at h; injection h with h _; omega
  | tuple ds => cases hd
  | list ds => rw [OkD_sg rfl] at ok; cases ok
  | dict ds => rw [OkD_sg rfl] at ok; cases ok
/-- a whole text stands at the place -/
theorem rdAt_of {z : Str} {s : Nat} {d : PyData} {r : List Nat} (hz : z.cps.toList.drop s = (txD d).cps.toList ++ r) (hs : s ≤ z.length) (ok : OkD d) (dp : dpD d ≤ 12) (hl : (txD d).length ≤ 100000) :
    rdAt z (s : Int) = some (d, (txD d).length) := by
  have e : rdWin z s = (txD d).cps.toList ++ r.take (min z.length (s + 100000) - s - (txD d).length) := by
    unfold rdWin win
    rw [hz, List.take_append, len_tl, List.take_of_length_le]
    have := congrArg List.length hz
    rw [List.length_drop, List.length_append, len_tl, len_tl] at this
    rw [len_tl]; omega
  unfold rdAt
  rw [if_pos ⟨by omega, by omega⟩, Int.toNat_natCast, e, rdV_of 12 d _ ok dp (by omega), len_tl]

/-! ### decode -/
theorem rdWin_eq (z : Str) (s : Nat) : rdWin z s = (z.cps.toList.drop s).take (min z.length (s + 100000) - s) := rfl
def decZ (z : Str) (d : PyData) : Prop := rdAt z 0 = some (d, z.length)
def spDec (K : PySem.W.Frag) (B : Addr) : Sp := fun vs H Q E => ∃ (v : V), vs = [v] ∧
  ((∃ (z : Str), v = .str z ∧ z.length ≤ 1000000 ∧ isPr z = true ∧
    (∀ d, decZ z d → ∀ H' u, Same H H' → Dt K H' none u d → Q u H') ∧ ((¬ ∃ d, decZ z d) → ∀ H', Same H H' → E (.ref B) none H')) ∨
   (NoStr K H v ∧ ∀ H', Same H H' → E (.ref B) none H'))
section
variable {P : Program} {w : World} {K : PySem.W.Frag} {mg : Str → Option Value} {base : Heap}
theorem c_decode {C_Group : Addr} {C_BadGroup : Addr} {C_BadLetter : Addr} {C_BadText : Addr} {C_FORMS : Addr} {C_CONSTANTS : Addr} (T : Txt K mg w C_Group C_BadGroup C_BadLetter C_BadText C_FORMS C_CONSTANTS) : CalX P w K mg base 31 "decode" (spDec K C_BadText) := by
  have c_read_value := c_read_value (P := P) (w := w) (base := base) T
  refine calX T.d_decode sc_decode (fun vs H Q E h => ?_) (fun f cdv A' outer s H vs Q E hr h => ?_)
  · obtain ⟨v, rfl, _⟩ := h; rfl
  obtain ⟨v, rfl, h⟩ := h
  have sl := sizeLine_eq
  refine ⟨_, (pss_cons (ps_asg (pe_cX c_read_value hr (by omega) (by rfl) (fun σ => passAt (takes_of rfl rfl rfl rfl) σ) (pa_cons (pv 0) (pa_cons pe_int pa_nil))) (pg_tup (by rfl) (pgs_cons (pg_name (i := 1) sc_decode.nd rfl (Or.inl rfl)) (pgs_cons (pg_name (i := 2) sc_decode.nd rfl (Or.inl rfl)) pgs_nil))))
      (pss_cons (ps_if (pt_cmpR op_ne (pv 2) (pe_callB call_len_str (by rfl) T.z_len (by decide +kernel) (pa_cons (pv 0) pa_nil)) (nomark _)) (pss_one (ps_raise rfl (takes_of rfl rfl rfl rfl) (pmk_ok T.x_BadText (by rfl)))) pss_nil)
      (pss_one (ps_ret (pv 1))))), ?_⟩
  walk_at "rds"
  delta tNil
  rcases h with ⟨z, rfl, hz, hp, q, qe⟩ | ⟨hn, qe⟩
  · refine ⟨_, _, rfl, .inl ⟨z, 0, rfl, rfl, hz, hp, fun d k ek H1 t u s1 et du => ?_, fun ek => qe (fun ⟨d, hd⟩ => by unfold decZ at hd; rw [hd] at ek; cases ek)⟩⟩
    walk_at "rds"
    refine ⟨t, [u, .int (0 + (k : Int))], rfl, SqT.of et, rfl, _, _, rfl, _, _, rfl, rfl, ?_⟩
    walk_at "rds"
    by_cases g : k = z.length
    · subst g
      refine ifF (by rw [Int.zero_add, decide_eq_true rfl]; rfl) ?_
      walk_at "rds"
      exact q d ek _ _ s1 du
    · refine ifT (by rw [Int.zero_add, decide_eq_false (fun h => g (by injection h with h; omega))]; rfl) ?_
      walk_at "rds"
      exact qe (fun ⟨d', hd⟩ => by unfold decZ at hd; rw [hd] at ek; cases ek; exact g rfl) _ s1
  · exact ⟨_, _, rfl, .inr ⟨.inr hn, qe⟩⟩
/-- what decode reads is the text of the value -/
theorem decZ_inv {z : Str} {d : PyData} (h : decZ z d) : OkD d ∧ dpD d ≤ 12 ∧ z = txD d ∧ z.length ≤ 100000 := by
  unfold decZ rdAt at h
  split at h
  · obtain ⟨r, e1, e2, e3, e4⟩ := rdV_inv _ _ _ _ h
    have le := congrArg List.length e1
    rw [List.length_append, rdWin_eq, List.length_take, List.length_drop, len_tl] at le
    rw [len_tl] at e2
    rw [len_tl] at le
    simp only [Int.toNat_zero] at le e1
    have r0 : r = [] := List.eq_nil_of_length_eq_zero (by omega)
    rw [r0, List.append_nil, rdWin_eq, List.drop_zero, List.take_of_length_le (by rw [len_tl]; omega)] at e1
    exact ⟨e3, e4, str_eq_l.mpr e1, by omega⟩
  · cases h
theorem decZ_of {d : PyData} (ok : OkD d) (dp : dpD d ≤ 12) (hl : (txD d).length ≤ 100000) : decZ (txD d) d :=
  (rdAt_of (z := txD d) (s := 0) (d := d) (r := []) (by rw [List.drop_zero, List.append_nil]) (Nat.zero_le _) ok dp hl)
theorem decZ_one {z : Str} {d e : PyData} (h : decZ z d) (h2 : decZ z e) : d = e := by
  unfold decZ at h h2; rw [h] at h2; cases h2; rfl
end

/-! ### _law_text, _law_kind, _law_same -/
theorem OkD.lt {i : Int} (h : OkD (.int i)) : i.natAbs < 2 ^ 1000 := Nat.lt_of_lt_of_le (OkD_int.mp h) (by decide +kernel)
def spTxtO (K : PySem.W.Frag) (k : Nat) : Sp := fun vs H Q _ => ∃ (v : V) (d : PyData), vs = [v] ∧ Dt K H none v d ∧ OkD d ∧ dpD d < k ∧ (txD d).length ≤ 16000000 ∧ ∀ H', Same H H' → Q (.str (txD d)) H'
section
variable {P : Program} {w : World} {K : PySem.W.Frag} {mg : Str → Option Value} {base : Heap}
theorem c__law_text {C_Group : Addr} {C_BadGroup : Addr} {C_BadLetter : Addr} {C_BadText : Addr} {C_FORMS : Addr} {C_CONSTANTS : Addr} (T : Txt K mg w C_Group C_BadGroup C_BadLetter C_BadText C_FORMS C_CONSTANTS) : ∀ k : Nat, Cal P w K mg base (k + 1) "_law_text" (spTxtO K k) []
  | 0 => cal T.d__law_text sc__law_text (fun vs H Q E h => by obtain ⟨_, _, _, _, _, h, _⟩ := h; omega) (fun f cdv A' outer s H vs Q E hr h => by obtain ⟨_, _, _, _, _, h, _⟩ := h; omega)
  | k + 1 => by
    have c__law_text := c__law_text T k
    refine cal T.d__law_text sc__law_text (fun vs H Q E h => ?_) (fun f cdv A' outer s H vs Q E hr h => ?_)
    · obtain ⟨v, d, rfl, _⟩ := h; rfl
    obtain ⟨v, d, rfl, dv, ok, dk, lt, q⟩ := h
    have sl := sizeLine_eq
    refine ⟨_, (pss_cons (ps_if (pt_cmpR op_isN (pv 0) pe_non (nomark _)) (pss_one (ps_ret pe_str)) pss_nil)
      (pss_cons (ps_if (pt_cmpR op_isB (pv 0) pe_bl (nomark _)) (pss_one (ps_ret pe_str)) pss_nil)
      (pss_cons (ps_if (pt_cmpR op_isB (pv 0) pe_bl (nomark _)) (pss_one (ps_ret pe_str)) pss_nil)
      (pss_cons (ps_if (pt_val (pe_callB (kisi (K := K)) (by rfl) T.z_isinstance (by decide +kernel) (pa_cons (pv 0) (pa_cons (pe_bltn (v := .ty "int") (by rfl) T.z_int (by decide +kernel) rfl) pa_nil)))) (pss_one (ps_ret (pe_op op_add_str (pe_op op_add_str pe_str (pe_callTy call_str_int (by rfl) T.z_str (by decide +kernel) (pa_cons (pv 0) pa_nil))) pe_str))) pss_nil)
      (pss_cons (ps_if (pt_val (pe_callB (kisi (K := K)) (by rfl) T.z_isinstance (by decide +kernel) (pa_cons (pv 0) (pa_cons (pe_bltn (v := .ty "str") (by rfl) T.z_str (by decide +kernel) rfl) pa_nil)))) (pss_one (ps_ret (pe_op op_add_str (pe_op op_add_str (pe_op op_add_str pe_str (pe_callTy call_str_int (by rfl) T.z_str (by decide +kernel) (pa_cons (pe_callB (klenM (K := K)) (by rfl) T.z_len (by decide +kernel) (pa_cons (pv 0) pa_nil)) pa_nil))) pe_str) (pv 0)))) pss_nil)
      (pss_cons (ps_set (i := 1) sc__law_text.nd rfl (Or.inl rfl) (pe_op op_add_str (pe_op op_add_str pe_str (pe_callTy call_str_int (by rfl) T.z_str (by decide +kernel) (pa_cons (pe_callB (klenM (K := K)) (by rfl) T.z_len (by decide +kernel) (pa_cons (pv 0) pa_nil)) pa_nil))) pe_str))
      (pss_cons (ps_for PassesOwn.never rfl (pi_tup (pv 0)) (pg_name (i := 2) sc__law_text.nd rfl (Or.inl rfl)) (pss_one (ps_set (i := 1) sc__law_text.nd rfl (Or.inl rfl) (pe_op op_add_str (pv 1) (pe_c c__law_text hr (by omega) (by rfl) (pa_cons (pv 2) pa_nil))))))
      (pss_one (ps_ret (pv 1)))))))))), ?_⟩
    have hT : ∀ {x : V} {d : PyData}, Dt K H none x d → isTup d = false → OkD d → (txD d) = (sgT d).getD Str.empty := fun _ h _ => txD_sg h
    cases dv with
    | non =>
      walk_at "rds"
      refine ifT rfl ?_
      walk_at "rds"
      exact q _ (Same.refl _)
    | bl b =>
      walk_at "rds"
      cases b with
      | true =>
        refine ifT rfl ?_
        walk_at "rds"
        exact q _ (Same.refl _)
      | false =>
        refine ifF rfl ?_
        walk_at "rds"
        exact q _ (Same.refl _)
    | int i =>
      walk_at "rds"
      walk_at "isi"
      walk_at "rds"
      have lg : i.natAbs.log2 < 1000 := log2_of_lt (by omega) ok.lt
      have tl := itx_len (by omega) lg
      have e2 : (Str.ofString "i").length = 1 := rfl
      have e3 : (Str.ofString ";").length = 1 := rfl
      refine ⟨by omega, ?_⟩
      walk_at "rds"
      refine ⟨by rw [len_app2]; omega, ?_⟩
      rw [txD_int ok] at q
      exact q _ (Same.refl _)
    | str z hz =>
      walk_at "rds"
      walk_at "isi"
      walk_at "rds"
      walk_at "isi"
      walk_at "rds"
      have lg := nat_log (n := z.length) (by omega)
      have tl := itx_len (by omega) lg
      have e2 : (Str.ofString "s").length = 1 := rfl
      have e3 : (Str.ofString ":").length = 1 := rfl
      refine ⟨by omega, ?_⟩
      walk_at "rds"
      refine ⟨by rw [len_app2]; omega, ?_⟩
      walk_at "rds"
      refine ⟨by rw [len_app2, len_app2]; omega, ?_⟩
      rw [txD_str ok] at q
      exact q _ (Same.refl _)
    | lst ne ha hx =>
      rw [OkD_sg rfl] at ok; cases ok
    | tup ha hx =>
      rename_i a xs ds
      have lxs : xs.length = ds.length := hx.length
      have tn := tup_len ds
      rw [OkD] at ok; rw [dpD] at dk
      have ln := txL_len ok
      rw [txD] at lt q tn
      walk_at "rds"
      refine ⟨_, .ty _, _, _, false, rfl, .ty _, ha.ty, kit_ty (by decide +kernel), ?_⟩
      walk_at "rds"
      refine ⟨_, .ty _, _, _, false, rfl, .ty _, ha.ty, kit_ty (by decide +kernel), ?_⟩
      walk_at "rds"
      have lg := nat_log (n := xs.length) (by omega)
      have tl := itx_len (by omega) lg
      have e2 : (Str.ofString "t").length = 1 := rfl
      have e3 : (Str.ofString ":").length = 1 := rfl
      refine .inr ⟨a, xs, rfl, .inr ha.sq, ?_⟩
      walk_at "rds"
      refine ⟨by omega, ?_⟩
      walk_at "rds"
      refine ⟨by rw [len_app2]; omega, ?_⟩
      rw [lxs, ← hdr_eq]
      walk_at "rds"
      refine ⟨⟨xs, ha.sq⟩, ?_⟩
      refine for_it (walk_tup (K := K) (a := a) (xs := xs)) (Pv := fun i σ H' => ∃ (y : Option V), σ = [some (.ref a), some (.str (txA (hdr ds.length) (ds.take i))), y] ∧ Same H H')
        ⟨none, by rw [List.take_zero, txA]; rfl, Same.refl _⟩ (fun i σ H' _ h => ?_) (fun i x σ H1 H2 hi hp hy => ?_) (fun σ H' hp => ?_)
      · obtain ⟨_, _, s2⟩ := h
        exact (ha.same s2).sq
      · obtain ⟨y, rfl, s2⟩ := hp
        obtain ⟨rfl, gx⟩ := hy
        obtain ⟨d, gd, hdx⟩ := (hx.on s2).get gx
        have hm := List.mem_of_getElem? gd
        obtain ⟨es, ls⟩ := txA_snoc (acc := hdr ds.length) gd
        have := dpL_mem _ hm
        walk_at "rds"
        refine ⟨x, d, rfl, hdx, ok.mem _ hm, by omega, by omega, fun H3 s3 => ?_⟩
        refine ⟨_, _, rfl, rfl, by omega, ?_⟩
        refine ⟨_, by rw [es]; rfl, s2.trans s3⟩
      · obtain ⟨y, rfl, s2⟩ := hp
        rw [lxs, List.take_length]
        walk_at "rds"
        exact q _ s2
def kd : PyData → Int
  | .none => 0
  | .bool _ => 1
  | .int _ => 2
  | .str _ => 3
  | .tuple _ => 4
  | _ => 5
def spKnd (K : PySem.W.Frag) : Sp := fun vs H Q _ => ∃ (v : V) (d : PyData), vs = [v] ∧ Dt K H none v d ∧ OkD d ∧ Q (.int (kd d)) H
theorem c__law_kind {C_Group : Addr} {C_BadGroup : Addr} {C_BadLetter : Addr} {C_BadText : Addr} {C_FORMS : Addr} {C_CONSTANTS : Addr} (T : Txt K mg w C_Group C_BadGroup C_BadLetter C_BadText C_FORMS C_CONSTANTS) : Cal P w K mg base 1 "_law_kind" (spKnd K) [] := by
  refine cal T.d__law_kind sc__law_kind (fun vs H Q E h => ?_) (fun f cdv A' outer s H vs Q E hr h => ?_)
  · obtain ⟨v, d, rfl, _⟩ := h; rfl
  obtain ⟨v, d, rfl, dv, ok, q⟩ := h
  refine ⟨_, (pss_cons (ps_if (pt_cmpR op_isN (pv 0) pe_non (nomark _)) (pss_one (ps_ret pe_int)) pss_nil)
      (pss_cons (ps_if (pt_val (pe_callB (kisi (K := K)) (by rfl) T.z_isinstance (by decide +kernel) (pa_cons (pv 0) (pa_cons (pe_bltn (v := .ty "bool") (by rfl) T.z_bool (by decide +kernel) rfl) pa_nil)))) (pss_one (ps_ret pe_int)) pss_nil)
      (pss_cons (ps_if (pt_val (pe_callB (kisi (K := K)) (by rfl) T.z_isinstance (by decide +kernel) (pa_cons (pv 0) (pa_cons (pe_bltn (v := .ty "int") (by rfl) T.z_int (by decide +kernel) rfl) pa_nil)))) (pss_one (ps_ret pe_int)) pss_nil)
      (pss_cons (ps_if (pt_val (pe_callB (kisi (K := K)) (by rfl) T.z_isinstance (by decide +kernel) (pa_cons (pv 0) (pa_cons (pe_bltn (v := .ty "str") (by rfl) T.z_str (by decide +kernel) rfl) pa_nil)))) (pss_one (ps_ret pe_int)) pss_nil)
      (pss_cons (ps_if (pt_val (pe_callB (kisi (K := K)) (by rfl) T.z_isinstance (by decide +kernel) (pa_cons (pv 0) (pa_cons (pe_bltn (v := .ty "tuple") (by rfl) T.z_tuple (by decide +kernel) rfl) pa_nil)))) (pss_one (ps_ret pe_int)) pss_nil)
      (pss_one (ps_ret pe_int))))))), ?_⟩
  cases dv with
  | non =>
    walk_at "rds"
    exact q
  | bl b =>
    walk_at "rds"
    walk_at "isi"
    walk_at "rds"
    exact q
  | int i =>
    walk_at "rds"
    walk_at "isi"
    walk_at "rds"
    walk_at "isi"
    walk_at "rds"
    exact q
  | str z hz =>
    walk_at "rds"
    walk_at "isi"
    walk_at "rds"
    walk_at "isi"
    walk_at "rds"
    walk_at "isi"
    walk_at "rds"
    exact q
  | lst ne ha hx => rw [OkD_sg rfl] at ok; cases ok
  | tup ha hx =>
    walk_at "rds"
    refine ⟨_, .ty _, _, _, false, rfl, .ty _, ha.ty, kit_ty (by decide +kernel), ?_⟩
    walk_at "rds"
    refine ⟨_, .ty _, _, _, false, rfl, .ty _, ha.ty, kit_ty (by decide +kernel), ?_⟩
    walk_at "rds"
    refine ⟨_, .ty _, _, _, false, rfl, .ty _, ha.ty, kit_ty (by decide +kernel), ?_⟩
    walk_at "rds"
    refine ⟨_, .ty _, _, _, true, rfl, .ty _, ha.ty, kit_ty (by decide +kernel), ?_⟩
    walk_at "rds"
    exact q
end

/-! ### _law_same -/
section
variable {P : Program} {w : World} {K : PySem.W.Frag} {mg : Str → Option Value} {base : Heap}
def spSame (K : PySem.W.Frag) (k : Nat) : Sp := fun vs H Q _ => ∃ (v u : V) (d : PyData), vs = [v, u] ∧ Dt K H none v d ∧ Dt K H none u d ∧ OkD d ∧ dpD d < k ∧ (txD d).length ≤ 1000000 ∧ ∀ H', Same H H' → Q (.bl true) H'
theorem c__law_same {C_Group : Addr} {C_BadGroup : Addr} {C_BadLetter : Addr} {C_BadText : Addr} {C_FORMS : Addr} {C_CONSTANTS : Addr} (T : Txt K mg w C_Group C_BadGroup C_BadLetter C_BadText C_FORMS C_CONSTANTS) : ∀ k : Nat, Cal P w K mg base (k + 2) "_law_same" (spSame K k) []
  | 0 => cal T.d__law_same sc__law_same (fun vs H Q E h => by obtain ⟨_, _, _, _, _, _, _, h, _⟩ := h; omega) (fun f cdv A' outer s H vs Q E hr h => by obtain ⟨_, _, _, _, _, _, _, h, _⟩ := h; omega)
  | k + 1 => by
    have c__law_same := c__law_same T k
    have c__law_kind := c__law_kind (P := P) (w := w) (base := base) T
    refine cal T.d__law_same sc__law_same (fun vs H Q E h => ?_) (fun f cdv A' outer s H vs Q E hr h => ?_)
    · obtain ⟨v, u, d, rfl, _⟩ := h; rfl
    obtain ⟨v, u, d, rfl, dv, du, ok, dk, lt, q⟩ := h
    refine ⟨_, (pss_cons (ps_if (pt_cmpR op_ne (pe_c c__law_kind hr (by omega) (by rfl) (pa_cons (pv 0) pa_nil)) (pe_c c__law_kind hr (by omega) (by rfl) (pa_cons (pv 1) pa_nil)) (nomark _)) (pss_one (ps_ret pe_bl)) pss_nil)
      (pss_cons (ps_if (pt_not (pt_val (pe_callB (kisi (K := K)) (by rfl) T.z_isinstance (by decide +kernel) (pa_cons (pv 1) (pa_cons (pe_bltn (v := .ty "tuple") (by rfl) T.z_tuple (by decide +kernel) rfl) pa_nil))))) (pss_one (ps_ret (pe_cmpR op_eq (pv 0) (pv 1) (nomark _)))) pss_nil)
      (pss_cons (ps_if (pt_cmpR op_ne (pe_callB (klen (K := K)) (by rfl) T.z_len (by decide +kernel) (pa_cons (pv 0) pa_nil)) (pe_callB (klen (K := K)) (by rfl) T.z_len (by decide +kernel) (pa_cons (pv 1) pa_nil)) (nomark _)) (pss_one (ps_ret pe_bl)) pss_nil)
      (pss_cons (ps_for PassesOwn.never rfl (pi_range1 (by rfl) T.z_range (pa_cons (pe_callB (klen (K := K)) (by rfl) T.z_len (by decide +kernel) (pa_cons (pv 1) pa_nil)) pa_nil)) (pg_name (i := 2) sc__law_same.nd rfl (Or.inl rfl)) (pss_one (ps_if (pt_not (pt_val (pe_c c__law_same hr (by omega) (by rfl) (pa_cons (pe_ix (kixt (K := K)) (pv 0) (pv 2) (fun _ _ => rfl)) (pa_cons (pe_ix (kixt (K := K)) (pv 1) (pv 2) (fun _ _ => rfl)) pa_nil))))) (pss_one (ps_ret pe_bl)) pss_nil)))
      (pss_one (ps_ret pe_bl)))))), ?_⟩
    walk_at "rds"
    refine ⟨v, d, rfl, dv, ok, ?_⟩
    walk_at "rds"
    refine ⟨u, d, rfl, du, ok, ?_⟩
    walk_at "rds"
    refine ifF (by rw [decide_eq_true rfl]; rfl) ?_
    walk_at "rds"
    cases dv with
    | non =>
      cases du
      walk_at "isi"
      walk_at "rds"
      exact q _ (Same.refl _)
    | bl b =>
      cases du
      walk_at "isi"
      walk_at "rds"
      rw [decide_eq_true rfl]
      exact q _ (Same.refl _)
    | int i =>
      cases du
      walk_at "isi"
      walk_at "rds"
      rw [decide_eq_true rfl]
      exact q _ (Same.refl _)
    | str z hz =>
      cases du
      walk_at "isi"
      walk_at "rds"
      rw [decide_eq_true rfl]
      exact q _ (Same.refl _)
    | lst ne ha hx => rw [OkD_sg rfl] at ok; cases ok
    | tup ha hx =>
      rename_i a xs ds
      cases du with
      | tup hb hy =>
      rename_i b ys
      have lxs : xs.length = ds.length := hx.length
      have lys : ys.length = ds.length := hy.length
      have tn := tup_len ds
      rw [OkD] at ok; rw [dpD] at dk
      have ln := txL_len ok
      refine ⟨_, .ty _, _, _, true, rfl, .ty _, hb.ty, kit_ty (by decide +kernel), ?_⟩
      walk_at "rds"
      refine ⟨a, xs, rfl, .inr ha.sq, ?_⟩
      walk_at "rds"
      refine ⟨b, ys, rfl, .inr hb.sq, ?_⟩
      walk_at "rds"
      refine ifF (by rw [lxs, lys, decide_eq_true rfl]; rfl) ?_
      walk_at "rds"
      refine ⟨b, ys, rfl, .inr hb.sq, ?_⟩
      walk_at "rds"
      walk_at "rds"
      have b62 : ys.length < 2 ^ 62 := Nat.lt_of_le_of_lt (show _ ≤ 1000000 by omega) (by decide)
      refine for_it walk_range (Pv := fun i σ H' => ∃ (y : Option V), σ = [some (.ref a), some (.ref b), y] ∧ Same H H') ⟨none, rfl, Same.refl _⟩ (fun _ _ _ _ _ => trivial) (fun i x σ H1 H2 hi hp hy' => ?_) (fun σ H' hp => ?_)
      · obtain ⟨y, rfl, s2⟩ := hp
        obtain ⟨rfl, rfl⟩ := hy'
        have hi' : i < ds.length := by omega
        have gd : ds[i]? = some ds[i] := List.getElem?_eq_getElem hi'
        obtain ⟨x1, g1, d1⟩ := (hx.on s2).getD gd
        obtain ⟨x2, g2, d2⟩ := (hy.on s2).getD gd
        have hm := List.mem_of_getElem? gd
        have := dpL_mem _ hm
        have := txL_ge hm
        walk_at "rds"
        refine ⟨a, xs, (i : Int), x1, rfl, congrArg V.int (by omega), (ha.same s2).sq, atI_nat g1, ?_⟩
        walk_at "rds"
        refine ⟨b, ys, (i : Int), x2, rfl, congrArg V.int (by omega), (hb.same s2).sq, atI_nat g2, ?_⟩
        walk_at "rds"
        refine ⟨x1, x2, ds[i], rfl, d1, d2, ok.mem _ hm, by omega, by omega, fun H3 s3 => ?_⟩
        walk_at "rds"
        exact ⟨_, rfl, s2.trans s3⟩
      · obtain ⟨y, rfl, s2⟩ := hp
        walk_at "rds"
        exact q _ s2
end

/-! ### commands, blocks and letters have texts -/
theorem good0_len {d : PyData} (h : GoodV 0 d) : (txD d).length ≤ 95 := h.len
theorem int_ok {i : Int} {lo hi : Int} (h : dInt lo hi (.int i) = true) (h1 : -10 ^ 13 ≤ lo) (h2 : hi ≤ 10 ^ 13) : GoodV 0 (.int i) := by
  have h : lo ≤ i ∧ i ≤ hi := of_decide_eq_true h
  refine good_int (Nat.lt_of_lt_of_le (show i.natAbs < 10 ^ 14 by omega) (by decide))
theorem int_small {i : Int} (h1 : -10 ^ 13 ≤ i) (h2 : i ≤ 10 ^ 13) : GoodV 0 (.int i) := good_int (Nat.lt_of_lt_of_le (show i.natAbs < 10 ^ 14 by omega) (by decide))
theorem str_len {z : Str} (hp : isPr z = true) (hz : z.length ≤ 240) : (txD (.str z)).length ≤ 250 := by
  rw [txD_str (OkD_str.mpr hp)]
  have l := int_text_length_le10 (a := (z.length : Int)) (k := 3) (by decide) (by omega)
  rw [← PySem.ofString_length] at l
  have e2 : (Str.ofString "s").length = 1 := rfl
  have e3 : (Str.ofString ":").length = 1 := rfl
  simp only [len_app2]; omega
theorem big_str (z : Str) : BigO (.str z) := by rw [BigO] <;> simp
theorem cmd_ok {d : PyData} (h : dCmd d = true) : OkD d ∧ dpD d ≤ 1 ∧ BigO d ∧ (txD d).length ≤ 443 := by
  obtain ⟨c, n, t, rfl, _⟩ := dCmd_inv h
  have h : (dInt (-100) (-1) (.int c) && dInt 1 1000000000000 (.int n) && dShort 240 (.str t)) = true := h
  rw [Bool.and_eq_true, Bool.and_eq_true] at h
  have g1 := int_ok h.1.1 (by decide) (by decide)
  have g2 := int_ok h.1.2 (by decide) (by decide)
  have h3 : (isPr t && decide ((t.length : Int) ≤ 240)) = true := h.2
  rw [Bool.and_eq_true] at h3
  have lt := of_decide_eq_true h3.2
  have o3 : OkD (.str t) := OkD_str.mpr h3.1
  have l3 := str_len h3.1 (by omega)
  have l1 := good0_len g1
  have l2 := good0_len g2
  have d1 := g1.dp
  have d2 := g2.dp
  have d3 : dpD (.str t) = 0 := dpD_sg rfl
  have hh : (hdr [PyData.int c, .int n, .str t].length).length = 3 := hdr_small (by simp)
  refine ⟨?_, ?_, ?_, ?_⟩
  · rw [OkD, OkL, OkL, OkL, OkL]; exact ⟨g1.ok, g2.ok, o3, trivial⟩
  · rw [dpD, dpL, dpL, dpL, dpL]; omega
  · rw [BigO, BigL, BigL, BigL, BigL]; exact ⟨by simp, g1.big, g2.big, big_str t, trivial⟩
  · rw [txD, txA, txA, txA, txA]; simp only [len_app2]; omega
theorem cmds_few : ∀ {ds : List PyData} {k : Int}, dCmdsFrom (some k) ds = true → k ≤ -1 → ((ds.length : Int) ≤ -1 - k)
  | [], k, _, hk => by simp; omega
  | d :: r, k, h, hk => by
    rw [dCmdsFrom_cons, Bool.and_eq_true, Bool.and_eq_true] at h
    obtain ⟨c, n, t, rfl, _⟩ := dCmd_inv h.1.1
    have hc : (dInt (-100) (-1) (.int c) && dInt 1 1000000000000 (.int n) && dShort 240 (.str t)) = true := h.1.1
    rw [Bool.and_eq_true, Bool.and_eq_true] at hc
    have hc1 : -100 ≤ c ∧ c ≤ -1 := of_decide_eq_true hc.1.1
    have hk2 : k < c := of_decide_eq_true h.1.2
    have := cmds_few (ds := r) (k := c) h.2 hc1.2
    rw [List.length_cons]; omega
theorem cmds_few0 {ds : List PyData} (h : dCmdsFrom none ds = true) : ds.length ≤ 100 := by
  cases ds with
  | nil => simp
  | cons d r =>
    rw [dCmdsFrom_cons, Bool.and_eq_true, Bool.and_eq_true] at h
    obtain ⟨c, n, t, rfl, _⟩ := dCmd_inv h.1.1
    have hc : (dInt (-100) (-1) (.int c) && dInt 1 1000000000000 (.int n) && dShort 240 (.str t)) = true := h.1.1
    rw [Bool.and_eq_true, Bool.and_eq_true] at hc
    have hc1 : -100 ≤ c ∧ c ≤ -1 := of_decide_eq_true hc.1.1
    have := cmds_few (ds := r) (k := c) h.2 hc1.2
    rw [List.length_cons]; omega
theorem cmds_ok : ∀ {ds : List PyData} {b : Option Int}, dCmdsFrom b ds = true → OkL ds ∧ dpL ds ≤ 1 ∧ BigL ds ∧ ∀ acc, (txA acc ds).length ≤ acc.length + 443 * ds.length
  | [], b, _ => ⟨by rw [OkL]; trivial, by rw [dpL]; omega, by rw [BigL]; trivial, fun acc => by rw [txA]; omega⟩
  | d :: r, b, h => by
    rw [dCmdsFrom_cons, Bool.and_eq_true, Bool.and_eq_true] at h
    obtain ⟨a1, a2, a3, a4⟩ := cmd_ok h.1.1
    obtain ⟨b1, b2, b3, b4⟩ := cmds_ok h.2
    refine ⟨by rw [OkL]; exact ⟨a1, b1⟩, by rw [dpL]; omega, by rw [BigL]; exact ⟨a3, b3⟩, fun acc => ?_⟩
    rw [txA]
    have := b4 (acc ++ txD d)
    rw [len_app2] at this
    rw [List.length_cons]; omega
theorem block_ok {d : PyData} (hb : dBlock d = true) : OkD d ∧ dpD d ≤ 3 ∧ BigO d ∧ (txD d).length ≤ 45600 := by
  obtain ⟨e, p, h, cs, rfl⟩ := dBlock_inv hb
  have hb : (dInt 1 1000000000000 (.int e) && dInt 0 (e - 1) (.int p) && dHeight p (.int h) && dCmdsFrom none cs) = true := hb
  rw [Bool.and_eq_true, Bool.and_eq_true, Bool.and_eq_true] at hb
  obtain ⟨⟨⟨h1, h2⟩, h3⟩, h4⟩ := hb
  have i1 : 1 ≤ e ∧ e ≤ 1000000000000 := of_decide_eq_true h1
  have i2 : 0 ≤ p ∧ p ≤ e - 1 := of_decide_eq_true h2
  have i3 : 1 ≤ h ∧ h ≤ p + 1 := by
    unfold dHeight at h3
    split at h3
    · have := (show 1 ≤ h ∧ h ≤ 1 from of_decide_eq_true h3); omega
    · have := (show 2 ≤ h ∧ h ≤ p + 1 from of_decide_eq_true h3); omega
  have g1 := int_small (i := e) (by omega) (by omega)
  have g2 := int_small (i := p) (by omega) (by omega)
  have g3 := int_small (i := h) (by omega) (by omega)
  have l1 := good0_len g1
  have l2 := good0_len g2
  have l3 := good0_len g3
  have d1 := g1.dp
  have d2 := g2.dp
  have d3 := g3.dp
  obtain ⟨c1, c2, c3, c4⟩ := cmds_ok h4
  have cf := cmds_few0 h4
  have hc : (hdr cs.length).length ≤ 1003 := hdr_len (by omega)
  have c4 := c4 (hdr cs.length)
  have hh : (hdr [PyData.int e, .int p, .int h, .tuple cs].length).length = 3 := hdr_small (by simp)
  have lc : (txD (.tuple cs)).length ≤ 1003 + 44300 := by rw [txD]; omega
  refine ⟨?_, ?_, ?_, ?_⟩
  · rw [OkD, OkL, OkL, OkL, OkL, OkL, OkD]; exact ⟨g1.ok, g2.ok, g3.ok, c1, trivial⟩
  · rw [dpD, dpL, dpL, dpL, dpL, dpL, dpD]; omega
  · rw [BigO, BigL, BigL, BigL, BigL, BigL, BigO]; exact ⟨by simp, g1.big, g2.big, g3.big, ⟨by omega, c3⟩, trivial⟩
  · rw [txD, txA, txA, txA, txA, txA]; simp only [len_app2]; omega
theorem tag_ok (g : Tag) : OkD (.str g.s) ∧ (txD (.str g.s)).length ≤ 12 := by cases g <;> exact ⟨OkD_str.mpr (by decide +kernel), by rw [txD_str (OkD_str.mpr (by decide +kernel))]; decide +kernel⟩
structure FitD (k n : Nat) (d : PyData) : Prop where
  ok : OkD d
  dp : dpD d ≤ k
  big : BigO d
  len : (txD d).length ≤ n
theorem LetD.parts {g : Tag} {r : List PyData} (h : LetD g r) : OkL r ∧ dpL r ≤ 3 ∧ BigL r ∧ r.length ≤ 2 ∧ ∀ acc, (txA acc r).length ≤ acc.length + 45700 := by
  have one : ∀ x : PyData, OkD x → dpD x ≤ 3 → BigO x → (txD x).length ≤ 45600 → OkL [x] ∧ dpL [x] ≤ 3 ∧ BigL [x] ∧ [x].length ≤ 2 ∧ ∀ acc, (txA acc [x]).length ≤ acc.length + 45700 := fun x a b c d =>
    ⟨by rw [OkL, OkL]; exact ⟨a, trivial⟩, by rw [dpL, dpL]; omega, by rw [BigL, BigL]; exact ⟨c, trivial⟩, by simp, fun acc => by rw [txA, txA, len_app2]; omega⟩
  have two : ∀ x y : PyData, OkD x → dpD x ≤ 3 → BigO x → (txD x).length ≤ 95 → OkD y → dpD y ≤ 3 → BigO y → (txD y).length ≤ 45600 → OkL [x, y] ∧ dpL [x, y] ≤ 3 ∧ BigL [x, y] ∧ [x, y].length ≤ 2 ∧ ∀ acc, (txA acc [x, y]).length ≤ acc.length + 45700 := fun x y a b c d a2 b2 c2 d2 =>
    ⟨by rw [OkL, OkL, OkL]; exact ⟨a, a2, trivial⟩, by rw [dpL, dpL, dpL]; omega, by rw [BigL, BigL, BigL]; exact ⟨c, c2, trivial⟩, by simp, fun acc => by rw [txA, txA, txA, len_app2, len_app2]; omega⟩
  cases h with
  | blk hg hb =>
    obtain ⟨a, b, c, d⟩ := block_ok hb
    exact one _ a b c d
  | vouch hc =>
    obtain ⟨a, b, c, d⟩ := cmd_ok hc
    exact one _ a (by omega) c (by omega)
  | claim h0 h1 =>
    rename_i n
    have g := int_small (i := n) (by omega) (by omega)
    have gd := g.dp
    have gl := good0_len g
    exact one _ g.ok (by omega) g.big (by omega)
  | give hb =>
    rename_i e p h cs
    obtain ⟨a, b, c, d⟩ := block_ok hb
    have hb : (dInt 1 1000000000000 (.int e) && dInt 0 (e - 1) (.int p) && dHeight p (.int h) && dCmdsFrom none cs) = true := hb
    rw [Bool.and_eq_true, Bool.and_eq_true, Bool.and_eq_true] at hb
    obtain ⟨⟨⟨h1, h2⟩, h3⟩, h4⟩ := hb
    have i1 : 1 ≤ e ∧ e ≤ 1000000000000 := of_decide_eq_true h1
    have i2 : 0 ≤ p ∧ p ≤ e - 1 := of_decide_eq_true h2
    have i3 : 1 ≤ h ∧ h ≤ p + 1 := by
      unfold dHeight at h3
      split at h3
      · have := (show 1 ≤ h ∧ h ≤ 1 from of_decide_eq_true h3); omega
      · have := (show 2 ≤ h ∧ h ≤ p + 1 from of_decide_eq_true h3); omega
    have g := int_small (i := h) (by omega) (by omega)
    have gd := g.dp
    have gl := good0_len g
    exact two _ _ g.ok (by omega) g.big gl a b c d
  | text hg n0 n1 pz lz =>
    rename_i n m z
    have g := int_small (i := n) (by omega) (by omega)
    have gd := g.dp
    have gl := good0_len g
    have lz2 : z.length ≤ 240 := by rcases hg with ⟨_, rfl⟩ | ⟨_, rfl⟩ <;> omega
    have sl := str_len pz lz2
    have d3 : dpD (.str z) = 0 := dpD_sg rfl
    exact two _ _ g.ok (by omega) g.big gl (OkD_str.mpr pz) (by omega) (big_str z) (by omega)
theorem LetD.fit {g : Tag} {r : List PyData} (h : LetD g r) : FitD 4 45720 (.tuple (.str g.s :: r)) := by
  obtain ⟨a, b, c, l, d⟩ := h.parts
  obtain ⟨t1, t2⟩ := tag_ok g
  have d3 : dpD (.str g.s) = 0 := dpD_sg rfl
  have hh : (hdr (PyData.str g.s :: r).length).length = 3 := hdr_small (by rw [List.length_cons]; omega)
  refine ⟨?_, ?_, ?_, ?_⟩
  · rw [OkD, OkL]; exact ⟨t1, a⟩
  · rw [dpD, dpL]; omega
  · rw [BigO, BigL]; exact ⟨by rw [List.length_cons]; omega, big_str _, c⟩
  · rw [txD, txA]
    have := d (hdr (PyData.str g.s :: r).length ++ txD (.str g.s))
    rw [len_app2] at this
    omega

/-! ### pack, unpack -/
def isTri : PyData → Bool
  | .tuple [_, _, _] => true
  | _ => false
def spPack (K : PySem.W.Frag) (B : Addr) : Sp := fun vs H Q E => ∃ (s r l : V) (ds dr dl : PyData), vs = [s, r, l] ∧ Dt K H none s ds ∧ Dt K H none r dr ∧ Dt K H none l dl ∧ FitD 12 100000 (.tuple [ds, dr, dl]) ∧
  ∀ H', Same H H' → Q (.str (txD (.tuple [ds, dr, dl]))) H'
def spUnp (K : PySem.W.Frag) (C B BL : Addr) : Sp := fun vs H Q E => ∃ (p : Addr) (n : Int) (z : Str), vs = [.ref p, .str z] ∧ GrAt C H p n ∧ z.length ≤ 1000000 ∧ isPr z = true ∧
  ((¬ ∃ d, decZ z d) → ∀ H', Same H H' → E (.ref B) none H') ∧ (∀ d, decZ z d → isTri d = false → ∀ H', Same H H' → E (.ref BL) none H') ∧
  (∀ ds dr dl, decZ z (.tuple [ds, dr, dl]) → ∃ b ok, LetIs dl b ∧ (b = false → ok = false) ∧ (∀ g r, dl = .tuple (.str g.s :: r) → b = true → ok = fitsT g n ds dr) ∧
    (ok = true → ∀ H' u, Same H H' → Dt K H' none u (.tuple [ds, dr, dl]) → Q u H') ∧ (ok = false → ∀ H', Same H H' → E (.ref BL) none H'))
section
variable {P : Program} {w : World} {K : PySem.W.Frag} {mg : Str → Option Value} {base : Heap}
theorem c_pack {C_Group : Addr} {C_BadGroup : Addr} {C_BadLetter : Addr} {C_BadText : Addr} {C_FORMS : Addr} {C_CONSTANTS : Addr} (T : Txt K mg w C_Group C_BadGroup C_BadLetter C_BadText C_FORMS C_CONSTANTS) : CalX P w K mg base 32 "pack" (spPack K C_BadText) := by
  have c_encode := c_encode (P := P) (w := w) (base := base) T none
  refine calX T.d_pack sc_pack (fun vs H Q E h => ?_) (fun f cdv A' outer s H vs Q E hr h => ?_)
  · obtain ⟨s, r, l, ds, dr, dl, rfl, _⟩ := h; rfl
  obtain ⟨s, r, l, ds, dr, dl, rfl, hs, hr', hl, ft, q⟩ := h
  have en : encT 12 100000 (.tuple [ds, dr, dl]) = some (txD (.tuple [ds, dr, dl])) := encT_ok _ 12 100000 ft.ok ft.dp (by have := ft.len; omega)
  refine ⟨_, (pss_one (ps_ret (pe_cX c_encode hr (by omega) (by rfl) (fun σ => passAt (takes_of rfl rfl rfl rfl) σ) (pa_cons (pe_tup (pa_cons (pv 0) (pa_cons (pv 1) (pa_cons (pv 2) pa_nil)))) pa_nil)))), ?_⟩
  walk_at "rds"
  intro t ht
  have s1 := same_upd (o := .tup [s, r, l]) ht
  have dt : Dt K (upd H t (.tup [s, r, l])) none (.ref t) (.tuple [ds, dr, dl]) := .tup (.inl upd_same) (.cons (hs.on s1) (.cons (hr'.on s1) (.cons (hl.on s1) .nil)))
  generalize upd H t (.tup [s, r, l]) = H1 at s1 dt
  walk_at "rds"
  refine ⟨.ref t, _, rfl, dt, ft.big, fun y ey H2 s2 => ?_, fun ey => (by rw [en] at ey; cases ey)⟩
  rw [en] at ey; cases ey
  exact q _ (s1.trans s2)
theorem c_unpack {C_Group : Addr} {C_BadGroup : Addr} {C_BadLetter : Addr} {C_BadText : Addr} {C_FORMS : Addr} {C_CONSTANTS : Addr} (T : Txt K mg w C_Group C_BadGroup C_BadLetter C_BadText C_FORMS C_CONSTANTS) : CalX P w K mg base 32 "unpack" (spUnp K C_Group C_BadText C_BadLetter) := by
  have c_decode := c_decode (P := P) (w := w) (base := base) T
  have c_check_letter := c_check_letter (P := P) (w := w) (base := base) T none
  refine calX T.d_unpack sc_unpack (fun vs H Q E h => ?_) (fun f cdv A' outer s H vs Q E hr h => ?_)
  · obtain ⟨p, n, z, rfl, _⟩ := h; rfl
  obtain ⟨p, n, z, rfl, hg, hz, hp, q1, q2, q3⟩ := h
  refine ⟨_, (pss_cons (ps_set (i := 2) sc_unpack.nd rfl (Or.inl rfl) (pe_cX c_decode hr (by omega) (by rfl) (fun σ => passAt (takes_of rfl rfl rfl rfl) σ) (pa_cons (pv 1) pa_nil)))
      (pss_cons (ps_if (PW.pt (pw_or (pt_not (pt_val (pe_callB (kisi (K := K)) (by rfl) T.z_isinstance (by decide +kernel) (pa_cons (pv 2) (pa_cons (pe_bltn (v := .ty "tuple") (by rfl) T.z_tuple (by decide +kernel) rfl) pa_nil))))) (pw_or1 (pt_cmpR op_ne (pe_callB (klen (K := K)) (by rfl) T.z_len (by decide +kernel) (pa_cons (pv 2) pa_nil)) pe_int (nomark _))))) (pss_one (ps_raise rfl (takes_of rfl rfl rfl rfl) (pmk_ok T.x_BadLetter (by rfl)))) pss_nil)
      (pss_cons (ps_asg (pv 2) (pg_tup (by rfl) (pgs_cons (pg_name (i := 3) sc_unpack.nd rfl (Or.inl rfl)) (pgs_cons (pg_name (i := 4) sc_unpack.nd rfl (Or.inl rfl)) (pgs_cons (pg_name (i := 5) sc_unpack.nd rfl (Or.inl rfl)) pgs_nil)))))
      (pss_cons (ps_expr (pe_cX c_check_letter hr (by omega) (by rfl) (fun σ => passAt (takes_of rfl rfl rfl rfl) σ) (pa_cons (pv 0) (pa_cons (pv 3) (pa_cons (pv 4) (pa_cons (pv 5) pa_nil))))))
      (pss_one (ps_ret (pv 2))))))), ?_⟩
  walk_at "rds"
  refine .inl ⟨z, rfl, hz, hp, fun d hd H1 u s1 du => ?_, q1⟩
  have q2 := q2 d hd
  have hg1 := hg.on s1
  walk_at "rds"
  cases ht : isTup d with
  | false =>
    have hk : kitB (dTy d) "tuple" = some false := by
      cases d with
      | tuple ds => cases ht
      | dict ds => cases du
      | none => decide +kernel
      | bool b => show kitB "bool" "tuple" = some false; decide +kernel
      | int i => show kitB "int" "tuple" = some false; decide +kernel
      | str z => show kitB "str" "tuple" = some false; decide +kernel
      | list r => show kitB "list" "tuple" = some false; decide +kernel
    have nt : isTri d = false := by
      cases d with
      | tuple ds => cases ht
      | _ => rfl
    refine ⟨_, .ty _, _, _, false, rfl, .ty _, du.ty, kit_ty hk, ?_⟩
    walk_at "rds"
    exact q2 nt _ s1
  | true =>
    cases d with
    | tuple ds =>
      cases du with
      | tup ha hx =>
        rename_i a xs
        have lx := hx.length
        refine ⟨_, .ty _, _, _, true, rfl, .ty _, ha.ty, kit_ty (by decide +kernel), ?_⟩
        walk_at "rds"
        refine ⟨a, xs, rfl, .inr ha.sq, ?_⟩
        walk_at "rds"
        by_cases l3 : ds.length = 3
        · obtain ⟨ds0, dr0, dl0, rfl⟩ : ∃ x y z, ds = [x, y, z] := by
            match ds, l3 with
            | [x, y, z], _ => exact ⟨x, y, z, rfl⟩
          obtain ⟨b, ok, li, hb, hok, qy, qn⟩ := q3 _ _ _ hd
          have hall := hx
          cases hx with
          | cons h1 hx =>
          cases hx with
          | cons h2 hx =>
          cases hx with
          | cons h3 hx =>
          cases hx
          rename_i v1 v2 v3
          refine ifF (by rw [decide_eq_true (show V.int ((([v1, v2, v3] : List V).length : Nat) : Int) = V.int 3 from rfl)]; rfl) ?_
          walk_at "rds"
          refine ⟨a, _, rfl, ha.sq, rfl, _, _, rfl, _, _, rfl, _, _, rfl, rfl, ?_⟩
          walk_at "rds"
          refine ⟨p, n, v1, v2, v3, ds0, dr0, dl0, b, ok, rfl, hg1, h1, h2, h3, li, hb, hok, fun e H2 s2 => ?_, fun e H2 s2 => qn e _ (s1.trans s2)⟩
          walk_at "rds"
          exact qy e _ _ (s1.trans s2) (.tup (ha.same s2) (hall.on s2))
        · have nt : isTri (.tuple ds) = false := by
            match ds, l3 with
            | [], _ => rfl
            | [_], _ => rfl
            | [_, _], _ => rfl
            | [_, _, _], h => exact absurd rfl h
            | _ :: _ :: _ :: _ :: _, _ => rfl
          refine ifT (by rw [decide_eq_false (fun h => l3 (by injection h with h; omega))]; rfl) ?_
          walk_at "rds"
          exact q2 nt _ s1
    | _ => cases ht
def refD (k : Int) : PyData := .tuple [.str "refused", .int k]
def spLUnp (K : PySem.W.Frag) (C : Addr) : Sp := fun vs H Q _ => ∃ (p : Addr) (n : Int) (z : Str), vs = [.ref p, .str z] ∧ GrAt C H p n ∧ z.length ≤ 1000000 ∧ isPr z = true ∧
  ((¬ ∃ d, decZ z d) → ∀ H' u, Same H H' → Dt K H' none u (refD 1) → Q u H') ∧ (∀ d, decZ z d → isTri d = false → ∀ H' u, Same H H' → Dt K H' none u (refD 2) → Q u H') ∧
  (∀ ds dr dl, decZ z (.tuple [ds, dr, dl]) → ∃ b ok, LetIs dl b ∧ (b = false → ok = false) ∧ (∀ g r, dl = .tuple (.str g.s :: r) → b = true → ok = fitsT g n ds dr) ∧
    (ok = true → ∀ H' u, Same H H' → Dt K H' none u (.tuple [ds, dr, dl]) → Q u H') ∧ (ok = false → ∀ H' u, Same H H' → Dt K H' none u (refD 2) → Q u H'))
theorem c__law_unpacked {C_Group : Addr} {C_BadGroup : Addr} {C_BadLetter : Addr} {C_BadText : Addr} {C_FORMS : Addr} {C_CONSTANTS : Addr} (T : Txt K mg w C_Group C_BadGroup C_BadLetter C_BadText C_FORMS C_CONSTANTS) : Cal P w K mg base 33 "_law_unpacked" (spLUnp K C_Group) [] := by
  have c_unpack := c_unpack (P := P) (w := w) (base := base) T
  refine cal T.d__law_unpacked sc__law_unpacked (fun vs H Q E h => ?_) (fun f cdv A' outer s H vs Q E hr h => ?_)
  · obtain ⟨p, n, z, rfl, _⟩ := h; rfl
  obtain ⟨p, n, z, rfl, hg, hz, hp, q1, q2, q3⟩ := h
  refine ⟨_, (pss_one (ps_try_many (Wout := fun _ _ _ _ => False) rfl rfl takes0 (fun W pn xe tk po => (pss_one (ps_ret (pe_cX c_unpack hr (by omega) (by rfl) (fun σ => passAt tk σ) (pa_cons (pv 0) (pa_cons (pv 1) pa_nil)))))) (HdsOk.cons ⟨by rfl, by decide, .inl T.x_BadText.g⟩ (fun a oe cls d pn _ _ => (pss_one (ps_ret (pe_tup (pa_cons pe_str (pa_cons pe_int pa_nil)))))) (HdsOk.cons ⟨by rfl, by decide, .inl T.x_BadLetter.g⟩ (fun a oe cls d pn _ _ => (pss_one (ps_ret (pe_tup (pa_cons pe_str (pa_cons pe_int pa_nil)))))) HdsOk.nil)))), ?_⟩
  walk_at "rds"
  refine ⟨p, n, z, rfl, hg, hz, hp, fun nd H1 s1 => ?_, fun d hd ht H1 s1 => ?_, fun ds dr dl hd => ?_⟩
  · walk_at "rds"
    refine ⟨true, T.x_BadText.exm T.u_BadText_BadText, fun _ a _ => ?_, fun z => by cases z⟩
    walk_at "rds"
    intro t ht
    have s2 := same_upd (o := .tup [V.str (Str.ofString "refused"), .int 1]) ht
    exact q1 nd _ _ (s1.trans s2) (.tup (.inl upd_same) (.cons (.str _ (by decide +kernel)) (.cons (.int _) .nil)))
  · walk_at "rds"
    refine ⟨false, T.x_BadText.exm T.u_BadLetter_BadText, fun z => (by cases z), fun _ => ?_⟩
    refine ⟨true, T.x_BadLetter.exm T.u_BadLetter_BadLetter, fun _ a _ => ?_, fun z => by cases z⟩
    walk_at "rds"
    intro t ht'
    have s2 := same_upd (o := .tup [V.str (Str.ofString "refused"), .int 2]) ht'
    exact q2 d hd ht _ _ (s1.trans s2) (.tup (.inl upd_same) (.cons (.str _ (by decide +kernel)) (.cons (.int _) .nil)))
  · obtain ⟨b, ok, li, hb, hok, qy, qn⟩ := q3 _ _ _ hd
    refine ⟨b, ok, li, hb, hok, qy, fun e H1 s1 => ?_⟩
    walk_at "rds"
    refine ⟨false, T.x_BadText.exm T.u_BadLetter_BadText, fun z => (by cases z), fun _ => ?_⟩
    refine ⟨true, T.x_BadLetter.exm T.u_BadLetter_BadLetter, fun _ a _ => ?_, fun z => by cases z⟩
    walk_at "rds"
    intro t ht'
    have s2 := same_upd (o := .tup [V.str (Str.ofString "refused"), .int 2]) ht'
    exact qn e _ _ (s1.trans s2) (.tup (.inl upd_same) (.cons (.str _ (by decide +kernel)) (.cons (.int _) .nil)))
structure EndD (g : Tag) (n i j : Int) : Prop where
  fits : fitsT g n (.int i) (.int j) = true
  lo : -100 ≤ i ∧ -100 ≤ j
  hi : i ≤ 3 * n ∧ j ≤ 3 * n
def spEnds (K : PySem.W.Frag) : Sp := fun vs H Q _ => ∃ (v : V) (g : Tag) (r : List PyData) (n : Int) (D A : Addr), vs = [v, .int (3 * n + 1), .ref D, .ref A] ∧ Dt K H none v (.tuple (.str g.s :: r)) ∧ noL (.tuple (.str g.s :: r)) = true ∧ Dr H D A ∧ 0 ≤ n ∧
  ∀ H' t i j, Mod A H H' → Dr H' D A → Dt K H' none t (.tuple [.int i, .int j]) → EndD g n i j → Q t H'
theorem c__law_ends {C_Group : Addr} {C_BadGroup : Addr} {C_BadLetter : Addr} {C_BadText : Addr} {C_FORMS : Addr} {C_CONSTANTS : Addr} (T : Txt K mg w C_Group C_BadGroup C_BadLetter C_BadText C_FORMS C_CONSTANTS) : Cal P w K mg base 2 "_law_ends" (spEnds K) [] := by
  have c__law_next := c__law_next (P := P) (w := w) (base := base) T
  refine cal T.d__law_ends sc__law_ends (fun vs H Q E h => ?_) (fun f cdv A' outer s H vs Q E hr h => ?_)
  · obtain ⟨v, g, r, n, D, A, rfl, _⟩ := h; rfl
  obtain ⟨v, g, r, n, D, A, rfl, hv, nl, dr, hn, q⟩ := h
  refine ⟨_, (pss_cons (ps_set (i := 4) sc__law_ends.nd rfl (Or.inl rfl) (pe_op op_sub (pe_un un_neg pe_int) (pe_c c__law_next hr (by omega) (by rfl) (pa_cons (pv 2) (pa_cons (pv 3) (pa_cons pe_int pa_nil))))))
      (pss_cons (ps_set (i := 5) sc__law_ends.nd rfl (Or.inl rfl) (pe_c c__law_next hr (by omega) (by rfl) (pa_cons (pv 2) (pa_cons (pv 3) (pa_cons (pv 1) pa_nil)))))
      (pss_cons (ps_if (pt_cmpR op_eq (pe_ix (kixt (K := K)) (pv 0) pe_int (fun _ _ => rfl)) pe_str (nomark _)) (pss_one (ps_ret (pe_tup (pa_cons (pv 4) (pa_cons (pv 5) pa_nil))))) pss_nil)
      (pss_cons (ps_if (pt_cmpR op_eq (pe_ix (kixt (K := K)) (pv 0) pe_int (fun _ _ => rfl)) pe_str (nomark _)) (pss_one (ps_ret (pe_tup (pa_cons (pv 5) (pa_cons (pv 4) pa_nil))))) pss_nil)
      (pss_one (ps_ret (pe_tup (pa_cons (pv 5) (pa_cons (pe_c c__law_next hr (by omega) (by rfl) (pa_cons (pv 2) (pa_cons (pv 3) (pa_cons (pv 1) pa_nil)))) pa_nil))))))))), ?_⟩
  walk_at "rds"
  refine ⟨D, A, 100, rfl, dr, by decide, fun H1 c c0 c1 md1 dr1 => ?_⟩
  walk_at "rds"
  refine ⟨D, A, 3 * n + 1, rfl, dr1, by omega, fun H2 m m0 m1 md2 dr2 => ?_⟩
  have hv := Dt.keep (B := none) (md2.tp dr1) _ _ nl (Dt.keep (B := none) (md1.tp dr) _ _ nl hv)
  have md12 := md1.trans md2
  have hc : dInt (-100) (-1) (.int (-1 - c)) = true := decide_eq_true ⟨by omega, by omega⟩
  have hm : dInt 0 (3 * n + 1 - 1) (.int m) = true := decide_eq_true ⟨by omega, by omega⟩
  cases hv with
  | tup ha hx =>
    rename_i la xs
    cases hx with
    | cons h1 hx =>
      cases h1
      walk_at "rds"
      refine ⟨la, _, 0, _, rfl, rfl, ha.sq, atI_nat (j := 0) rfl, ?_⟩
      walk_at "rds"
      refine (show (if decide (V.str g.s = V.str (Tag.s .command)) = true then _ else _ : Prop) from ?_)
      rw [tag_eq]
      by_cases e1 : g = .command
      · subst e1
        refine ifT (decide_eq_true rfl) ?_
        walk_at "rds"
        intro t ht
        have s3 := same_upd (o := .tup [V.int (-1 - c), .int m]) ht
        exact q _ _ _ _ (md12.trans (Same.mod s3)) (dr2.same s3) (.tup (.inl upd_same) (.cons (.int _) (.cons (.int _) .nil))) ⟨by show (_ && _) = true; rw [hc, hm]; rfl, ⟨by omega, by omega⟩, ⟨by omega, by omega⟩⟩
      refine ifF (decide_eq_false e1) ?_
      walk_at "rds"
      refine ⟨la, _, 0, _, rfl, rfl, ha.sq, atI_nat (j := 0) rfl, ?_⟩
      walk_at "rds"
      refine (show (if decide (V.str g.s = V.str (Tag.s .answer)) = true then _ else _ : Prop) from ?_)
      rw [tag_eq]
      by_cases e2 : g = .answer
      · subst e2
        refine ifT (decide_eq_true rfl) ?_
        walk_at "rds"
        intro t ht
        have s3 := same_upd (o := .tup [V.int m, .int (-1 - c)]) ht
        exact q _ _ _ _ (md12.trans (Same.mod s3)) (dr2.same s3) (.tup (.inl upd_same) (.cons (.int _) (.cons (.int _) .nil))) ⟨by show (_ && _) = true; rw [hc, hm]; rfl, ⟨by omega, by omega⟩, ⟨by omega, by omega⟩⟩
      refine ifF (decide_eq_false e2) ?_
      walk_at "rds"
      refine ⟨D, A, 3 * n + 1, rfl, dr2, by omega, fun H3 m2 k0 k1 md3 dr3 => ?_⟩
      have hm2 : dInt 0 (3 * n + 1 - 1) (.int m2) = true := decide_eq_true ⟨by omega, by omega⟩
      walk_at "rds"
      intro t ht
      have s3 := same_upd (o := .tup [V.int m, .int m2]) ht
      refine q _ _ _ _ ((md12.trans md3).trans (Same.mod s3)) (dr3.same s3) (.tup (.inl upd_same) (.cons (.int _) (.cons (.int _) .nil))) ⟨?_, ⟨by omega, by omega⟩, ⟨by omega, by omega⟩⟩
      have : fitsT g n (.int m) (.int m2) = (dInt 0 (3 * n + 1 - 1) (.int m) && dInt 0 (3 * n + 1 - 1) (.int m2)) := by cases g <;> first | rfl | exact absurd rfl e1 | exact absurd rfl e2
      rw [this, hm, hm2]; rfl
end

--@SPLIT
/-! ### packets, without Python -/
theorem FitD.of_good {d : PyData} (h : GoodV 0 d) : FitD 0 95 d := ⟨h.ok, h.dp, h.big, h.len⟩
theorem fit3 {a b c : PyData} (ha : GoodV 0 a) (hb : GoodV 0 b) (hc : FitD 4 45720 c) : FitD 12 100000 (.tuple [a, b, c]) := by
  have h : (hdr [a, b, c].length).length = 3 := hdr_small (by simp)
  have l1 := good0_len ha
  have l2 := good0_len hb
  have l3 := hc.len
  have d1 := ha.dp
  have d2 := hb.dp
  have d3 := hc.dp
  refine ⟨by rw [OkD, OkL, OkL, OkL, OkL]; exact ⟨ha.ok, hb.ok, hc.ok, trivial⟩, by rw [dpD, dpL, dpL, dpL, dpL]; omega, by rw [BigO, BigL, BigL, BigL, BigL]; exact ⟨by simp, ha.big, hb.big, hc.big, trivial⟩, ?_⟩
  rw [txD, txA, txA, txA, txA]; simp only [len_app2]; omega
theorem fit4 {a b c : PyData} (ha : GoodV 0 a) (hb : GoodV 0 b) (hc : FitD 4 45720 c) : FitD 12 100000 (.tuple [a, b, c, c]) := by
  have h : (hdr [a, b, c, c].length).length = 3 := hdr_small (by simp)
  have l1 := good0_len ha
  have l2 := good0_len hb
  have l3 := hc.len
  have d1 := ha.dp
  have d2 := hb.dp
  have d3 := hc.dp
  refine ⟨by rw [OkD, OkL, OkL, OkL, OkL, OkL]; exact ⟨ha.ok, hb.ok, hc.ok, hc.ok, trivial⟩, by rw [dpD, dpL, dpL, dpL, dpL, dpL]; omega, by rw [BigO, BigL, BigL, BigL, BigL, BigL]; exact ⟨by simp, ha.big, hb.big, hc.big, hc.big, trivial⟩, ?_⟩
  rw [txD, txA, txA, txA, txA, txA]; simp only [len_app2]; omega
theorem fit2 {a c : PyData} (ha : GoodV 0 a) (hc : FitD 4 45720 c) : FitD 12 100000 (.tuple [a, c]) := by
  have h : (hdr [a, c].length).length = 3 := hdr_small (by simp)
  have l1 := good0_len ha
  have l3 := hc.len
  have d1 := ha.dp
  have d3 := hc.dp
  refine ⟨by rw [OkD, OkL, OkL, OkL]; exact ⟨ha.ok, hc.ok, trivial⟩, by rw [dpD, dpL, dpL, dpL]; omega, by rw [BigO, BigL, BigL, BigL]; exact ⟨by simp, ha.big, hc.big, trivial⟩, ?_⟩
  rw [txD, txA, txA, txA]; simp only [len_app2]; omega
theorem tag_fit (g : Tag) : FitD 12 100000 (.str g.s) := ⟨(tag_ok g).1, by rw [dpD_sg rfl]; omega, big_str _, Nat.le_trans (tag_ok g).2 (by decide)⟩
theorem LetD.first {g : Tag} {r : List PyData} (h : LetD g r) : ∃ x s, r = x :: s ∧ LetIs x false ∧ FitD 4 45720 x := by
  obtain ⟨a, b, c, l, d⟩ := h.parts
  have key : ∀ x s, r = x :: s → FitD 4 45720 x := by
    rintro x s rfl
    rw [OkL] at a; rw [dpL] at b; rw [BigL] at c
    refine ⟨a.1, by omega, c.1, ?_⟩
    have := d Str.empty
    rw [txA] at this
    have g2 := txA_ge s (Str.empty ++ txD x)
    rw [len_app2] at g2
    have e0 : (Str.empty).length = 0 := rfl
    omega
  cases h with
  | blk hg hb =>
    obtain ⟨e, p, h, cs, rfl⟩ := dBlock_inv hb
    exact ⟨_, _, rfl, .int _ _, key _ _ rfl⟩
  | vouch hc =>
    obtain ⟨c, n, t, rfl, _⟩ := dCmd_inv hc
    exact ⟨_, _, rfl, .int _ _, key _ _ rfl⟩
  | claim _ _ => exact ⟨_, _, rfl, .num _, key _ _ rfl⟩
  | give _ => exact ⟨_, _, rfl, .num _, key _ _ rfl⟩
  | text _ _ _ _ _ => exact ⟨_, _, rfl, .num _, key _ _ rfl⟩
theorem rd_one {k : Nat} {d e : PyData} {r q : List Nat} (hd : OkD d) (dp : dpD d ≤ k) (ld : (txD d).length ≤ 1000000) (he : OkD e) (ep : dpD e ≤ k) (le : (txD e).length ≤ 1000000) (h : (txD d).cps.toList ++ r = (txD e).cps.toList ++ q) : d = e := by
  have h1 := rdV_of k d r hd dp ld
  have h2 := rdV_of k e q he ep le
  rw [h, h2] at h1
  cases h1; rfl
theorem no_init {d : PyData} {y : Str} (f : FitD 12 100000 d) (hy : y.cps.toList = (txD d).cps.toList.take ((txD d).length - 1)) : ¬ ∃ e, decZ y e := by
  rintro ⟨e, he⟩
  obtain ⟨ok, dp, ey, ly⟩ := decZ_inv he
  have pos := txD_pos f.ok
  have l := congrArg List.length hy
  rw [len_tl, List.length_take, len_tl] at l
  have fl := f.len
  have h : (txD d).cps.toList ++ [] = (txD e).cps.toList ++ (txD d).cps.toList.drop ((txD d).length - 1) := by
    rw [List.append_nil, ← ey, hy, List.take_append_drop]
  have := rd_one f.ok f.dp (by omega) ok dp (by rw [← ey]; omega) h
  subst this
  rw [ey] at l
  omega
theorem no_more {d : PyData} {y : Str} {c : Nat} (f : FitD 12 100000 d) (hy : y.cps.toList = (txD d).cps.toList ++ [c]) : ¬ ∃ e, decZ y e := by
  rintro ⟨e, he⟩
  obtain ⟨ok, dp, ey, ly⟩ := decZ_inv he
  have l := congrArg List.length hy
  rw [len_tl, List.length_append, len_tl] at l
  have fl := f.len
  have h : (txD d).cps.toList ++ [c] = (txD e).cps.toList ++ [] := by
    rw [List.append_nil, ← ey, hy]
  have := rd_one f.ok f.dp (by omega) ok dp (by rw [← ey]; omega) h
  subst this
  rw [ey] at l
  simp at l
theorem FitD.dec {d : PyData} (f : FitD 12 100000 d) : decZ (txD d) d := decZ_of f.ok f.dp f.len
theorem GrAt.mod {C : Addr} {H H' : Hp} {p A D : Addr} {n : Int} (h : GrAt C H p n) (s : Mod A H H') (dr : Dr H D A) : GrAt C H' p n := h.imp fun _ e => by
  obtain ⟨_, _, _, _, ea, _⟩ := id dr
  exact s _ _ (ne_of e ea (by intro z; cases z)) e
theorem cutS_init {z : Str} : (cutS z none (some (-1))).cps.toList = z.cps.toList.take (z.length - 1) := by
  unfold cutS
  rw [HT.sIx_none]
  have e2 : HT.sIx z.length z.length (some (-1)) = z.length - 1 := by unfold HT.sIx; simp only; split <;> omega
  rw [e2]; simp
theorem refD_ly (k : Int) : Ly 20 (refD k) := (ly_tup (k := 0) (ly_cons (ly_str (by decide +kernel)) (ly_cons (ly_int _) ly_nil))).mono (by decide)
theorem bad_lo {g : Tag} {n i : Int} {e : PyData} (h : i < -100) : fitsT g n (.int i) e = false := by
  have h1 : dInt (-100) (-1) (.int i) = false := decide_eq_false (by omega)
  have h2 : dInt 0 (3 * n + 1 - 1) (.int i) = false := decide_eq_false (by omega)
  cases g <;> first | (show (dInt (-100) (-1) (.int i) && _) = false; rw [h1]; rfl) | (show (dInt 0 (3 * n + 1 - 1) (.int i) && _) = false; rw [h2]; rfl)
theorem bad_hi {g : Tag} {n j : Int} {e : PyData} (h : 3 * n < j) (h0 : -1 < j) : fitsT g n e (.int j) = false := by
  have h1 : dInt (-100) (-1) (.int j) = false := decide_eq_false (by omega)
  have h2 : dInt 0 (3 * n + 1 - 1) (.int j) = false := decide_eq_false (by omega)
  cases g <;> first | (show (_ && dInt (-100) (-1) (.int j)) = false; rw [h1, Bool.and_false]) | (show (_ && dInt 0 (3 * n + 1 - 1) (.int j)) = false; rw [h2, Bool.and_false])
theorem bad_non {g : Tag} {n : Int} {e : PyData} : fitsT g n e .none = false := by
  cases g <;> exact Bool.and_false _
section
variable {P : Program} {w : World} {K : PySem.W.Frag} {mg : Str → Option Value} {base : Heap}
theorem ok_law {C_Group : Addr} {C_BadGroup : Addr} {C_BadLetter : Addr} {C_BadText : Addr} {C_FORMS : Addr} {C_CONSTANTS : Addr} {f : Addr} {fd : FuncData} (F : L2.Fun K "law" "law" s_law f fd) (T : Txt K mg w C_Group C_BadGroup C_BadLetter C_BadText C_FORMS C_CONSTANTS) : FnOk P w K mg base L2.CX0 40 f fd ["script"] (spLaw K) := by
  have c__law_draws := c__law_draws (P := P) (w := w) (base := base) T
  have c__law_next := c__law_next (P := P) (w := w) (base := base) T
  have c__law_letter := c__law_letter (P := P) (w := w) (K := K) (base := base) T
  have c__law_ends := c__law_ends (P := P) (w := w) (K := K) (base := base) T
  have c__law_text := c__law_text (P := P) (w := w) (base := base) T 13
  have c__law_same := c__law_same (P := P) (w := w) (base := base) T 13
  have c__law_unpacked := c__law_unpacked (P := P) (w := w) (base := base) T
  have c_pack := c_pack (P := P) (w := w) (base := base) T
  have k_Group := k_Group (P := P) (w := w) (base := base) T
  refine F.ok sc_law (fun vs H Q E h => ?_) (fun cdv A' outer s H vs Q E hr h => ?_)
  · obtain ⟨a, ns, rfl, _⟩ := h; rfl
  obtain ⟨a, ns, rfl, hS, hlen, q⟩ := h
  refine ⟨_, (pss_cons (ps_set (i := 1) sc_law.nd rfl (Or.inl rfl) (pe_c c__law_draws hr (by omega) (by rfl) (pa_cons (pv 0) pa_nil)))
      (pss_cons (ps_set (i := 2) sc_law.nd rfl (Or.inl rfl) (pe_lst (pa_cons pe_int pa_nil)))
      (pss_cons (ps_set (i := 3) sc_law.nd rfl (Or.inl rfl) (pe_c c__law_next hr (by omega) (by rfl) (pa_cons (pv 1) (pa_cons (pv 2) (pa_cons pe_int pa_nil)))))
      (pss_cons (ps_set (i := 4) sc_law.nd rfl (Or.inl rfl) (pe_mkX k_Group hr (by decide) (by rfl) no_pass (pa_cons (pv 3) pa_nil)))
      (pss_cons (ps_for PassesOwn.never rfl (pi_range1 (by rfl) T.z_range (pa_cons pe_int pa_nil)) (pg_name (i := 5) sc_law.nd rfl (Or.inl rfl)) (pss_cons (ps_set (i := 6) sc_law.nd rfl (Or.inl rfl) (pe_c c__law_letter hr (by omega) (by rfl) (pa_cons (pv 1) (pa_cons (pv 2) pa_nil))))
      (pss_cons (ps_set (i := 7) sc_law.nd rfl (Or.inl rfl) (pe_c c__law_ends hr (by omega) (by rfl) (pa_cons (pv 6) (pa_cons (pe_op op_add (pe_op op_mul pe_int (pv 3)) pe_int) (pa_cons (pv 1) (pa_cons (pv 2) pa_nil))))))
      (pss_cons (ps_set (i := 8) sc_law.nd rfl (Or.inl rfl) (pe_cmpR op_gt (pe_c c__law_next hr (by omega) (by rfl) (pa_cons (pv 1) (pa_cons (pv 2) (pa_cons pe_int pa_nil)))) pe_int (nomark _)))
      (pss_cut (ps_if (pt_not (pt_val (pv 8))) (pss_one (ps_set (i := 7) sc_law.nd rfl (Or.inl rfl) (pe_ix (kixl (K := K)) (pe_lst (pa_cons (pe_tup (pa_cons (pe_op op_sub (pe_ix (kixt (K := K)) (pv 7) pe_int (fun _ _ => rfl)) pe_int) (pa_cons (pe_ix (kixt (K := K)) (pv 7) pe_int (fun _ _ => rfl)) pa_nil))) (pa_cons (pe_tup (pa_cons (pe_ix (kixt (K := K)) (pv 7) pe_int (fun _ _ => rfl)) (pa_cons (pe_op op_add (pe_ix (kixt (K := K)) (pv 7) pe_int (fun _ _ => rfl)) pe_int) pa_nil))) (pa_cons (pe_tup (pa_cons (pe_ix (kixt (K := K)) (pv 7) pe_int (fun _ _ => rfl)) (pa_cons pe_non pa_nil))) pa_nil)))) (pe_c c__law_next hr (by omega) (by rfl) (pa_cons (pv 1) (pa_cons (pv 2) (pa_cons pe_int pa_nil)))) (fun _ _ => rfl)))) pss_nil)
      (pss_cons (ps_set (i := 9) sc_law.nd rfl (Or.inl rfl) (pe_tup (pa_cons (pe_ix (kixt (K := K)) (pv 7) pe_int (fun _ _ => rfl)) (pa_cons (pe_ix (kixt (K := K)) (pv 7) pe_int (fun _ _ => rfl)) (pa_cons (pv 6) pa_nil)))))
      (pss_cons (ps_set (i := 10) sc_law.nd rfl (Or.inl rfl) (pe_cX c_pack hr (by omega) (by rfl) no_pass (pa_cons (pe_ix (kixt (K := K)) (pv 7) pe_int (fun _ _ => rfl)) (pa_cons (pe_ix (kixt (K := K)) (pv 7) pe_int (fun _ _ => rfl)) (pa_cons (pv 6) pa_nil)))))
      (pss_cons (ps_if (PW.pt (pw_or (pt_not (pt_val (pe_callB (kisi (K := K)) (by rfl) T.z_isinstance (by decide +kernel) (pa_cons (pv 10) (pa_cons (pe_bltn (v := .ty "str") (by rfl) T.z_str (by decide +kernel) rfl) pa_nil))))) (pw_or1 (pt_cmpR op_ne (pv 10) (pe_c c__law_text hr (by omega) (by rfl) (pa_cons (pv 9) pa_nil)) (nomark _))))) (pss_one (ps_ret pe_bl)) pss_nil)
      (pss_cut (ps_set (i := 11) sc_law.nd rfl (Or.inl rfl) (pe_c c__law_unpacked hr (by omega) (by rfl) (pa_cons (pv 4) (pa_cons (pv 10) pa_nil))))
      (pss_cut (ps_if (PW.pt (pw_and (pt_val (pv 8)) (pw_and1 (pt_not (pt_val (pe_c c__law_same hr (by omega) (by rfl) (pa_cons (pv 11) (pa_cons (pv 9) pa_nil)))))))) (pss_one (ps_ret pe_bl)) pss_nil)
      (pss_cut (ps_if (PW.pt (pw_and (pt_not (pt_val (pv 8))) (pw_and1 (pt_cmpR (op_neD hr.units) (pv 11) (pe_tup (pa_cons pe_str (pa_cons pe_int pa_nil))) (nomark _))))) (pss_one (ps_ret pe_bl)) pss_nil)
      (pss_cons (ps_if (PW.pt (pw_or (pt_cmpR (op_neD hr.units) (pe_c c__law_unpacked hr (by omega) (by rfl) (pa_cons (pv 4) (pa_cons (pe_slice sl_str (pv 10) po_none (po_some (pe_un un_neg pe_int))) pa_nil))) (pe_tup (pa_cons pe_str (pa_cons pe_int pa_nil))) (nomark _)) (pw_or1 (pt_cmpR (op_neD hr.units) (pe_c c__law_unpacked hr (by omega) (by rfl) (pa_cons (pv 4) (pa_cons (pe_op op_add_str (pv 10) pe_str) pa_nil))) (pe_tup (pa_cons pe_str (pa_cons pe_int pa_nil))) (nomark _))))) (pss_one (ps_ret pe_bl)) pss_nil)
      (pss_cons (ps_for PassesOwn.never rfl (pi_list (pe_lst (pa_cons (pe_tup (pa_cons (pe_ix (kixt (K := K)) (pv 7) pe_int (fun _ _ => rfl)) (pa_cons (pv 6) pa_nil))) (pa_cons (pe_tup (pa_cons (pe_ix (kixt (K := K)) (pv 7) pe_int (fun _ _ => rfl)) (pa_cons (pe_ix (kixt (K := K)) (pv 7) pe_int (fun _ _ => rfl)) (pa_cons (pv 6) (pa_cons (pv 6) pa_nil))))) (pa_cons (pe_ix (kixt (K := K)) (pv 6) pe_int (fun _ _ => rfl)) (pa_cons (pe_tup (pa_cons (pe_ix (kixt (K := K)) (pv 7) pe_int (fun _ _ => rfl)) (pa_cons (pe_ix (kixt (K := K)) (pv 7) pe_int (fun _ _ => rfl)) (pa_cons (pe_ix (kixt (K := K)) (pv 6) pe_int (fun _ _ => rfl)) pa_nil)))) pa_nil)))))) (pg_name (i := 12) sc_law.nd rfl (Or.inl rfl)) (pss_one (ps_if (pt_cmpR (op_neD hr.units) (pe_c c__law_unpacked hr (by omega) (by rfl) (pa_cons (pv 4) (pa_cons (pe_c c__law_text hr (by omega) (by rfl) (pa_cons (pv 12) pa_nil)) pa_nil))) (pe_tup (pa_cons pe_str (pa_cons pe_int pa_nil))) (nomark _)) (pss_one (ps_ret pe_bl)) pss_nil)))
      (pss_one (ps_if (PW.pt (pw_and (pt_val (pv 8)) (pw_and1 (pt_not (pt_val (pe_c c__law_same hr (by omega) (by rfl) (pa_cons (pe_c c__law_unpacked hr (by omega) (by rfl) (pa_cons (pv 4) (pa_cons (pv 10) pa_nil))) (pa_cons (pv 9) pa_nil)))))))) (pss_one (ps_ret pe_bl)) pss_nil)))))))))))))))
      (pss_one (ps_ret pe_bl))))))), ?_⟩
  have sl := sizeLine_eq
  walk_at "rds"
  refine ⟨a, ns, rfl, hS, hlen, fun H1 D ds s1 hD0 hD hrg hle => ?_⟩
  walk_at "rds"
  intro A hA
  have dr : Dr (upd H1 A (.lst [.int 0])) D A := ⟨ne_of_none hD hA, ds, 0, by rw [upd_ne (ne_of_none hD hA)]; exact hD, upd_same, hrg, hle⟩
  generalize upd H1 A (.lst [.int 0]) = H2 at dr
  clear hD hA hD0 s1 hS
  walk_at "rds"
  refine ⟨D, A, 11, rfl, dr, by decide, fun H3 n n0 n1 md3 dr3 => ?_⟩
  clear md3 dr
  walk_at "rds"
  intro p dx hp hdx npd
  have s4a := same_upd (o := .own p) hdx
  have hp1 : upd H3 dx (.own p) p = none := by rw [upd_ne npd.symm]; exact hp
  have s4 := s4a.trans (same_upd (o := .ins C_Group dx []) hp1)
  have e4 : upd (upd H3 dx (.own p)) p (.ins C_Group dx []) p = some (.ins C_Group dx []) := upd_same
  generalize upd (upd H3 dx (.own p)) p (.ins C_Group dx []) = H4 at s4 e4
  refine ⟨p, dx, .int n, rfl, e4, .inl ⟨n, rfl, n0, by omega, fun H5 k5 hg => ?_⟩⟩
  have s5 : Same H3 H5 := fun b o e => k5 b o (s4 b o e) (fun z => by rw [z, hp] at e; cases e)
  have dr5 := dr3.same s5
  refine ⟨rfl, ?_⟩
  clear s5 k5 e4 s4 s4a hp1 dr3 hdx hp
  walk_at "rds"
  refine for_it walk_range (Pv := fun i σ H' => ∃ y5 y6 y7 y8 y9 y10 y11 y12, σ = [some (.ref a), some (.ref D), some (.ref A), some (.int n), some (.ref p), y5, y6, y7, y8, y9, y10, y11, y12] ∧ Dr H' D A ∧ GrAt C_Group H' p n) ⟨none, none, none, none, none, none, none, none, rfl, dr5, hg⟩ (fun _ _ _ _ _ => trivial) (fun i x σ H6 H7 hi hp hy => ?_) (fun σ H6 hp => ?_)
  · obtain ⟨y5, y6, y7, y8, y9, y10, y11, y12, rfl, dr, hg⟩ := hp
    obtain ⟨rfl, rfl⟩ := hy
    clear dr5
    walk_at "rds"
    refine ⟨D, A, rfl, dr, fun H8 v g r md8 dr8 hv ld => ?_⟩
    have hg8 := hg.mod md8 dr
    have hv := hv.an
    have lf := ld.fit
    have nl := lf.ok.noL
    walk_at "rds"
    refine ⟨v, g, r, n, D, A, rfl, hv, nl, dr8, n0, fun H9 t i0 j0 md9 dr9 ht ed => ?_⟩
    have hg9 := hg8.mod md9 dr8
    have hv := Dt.keep (B := none) (md9.tp dr8) _ _ nl hv
    clear md8 dr hg dr8 hg8 md9
    walk_at "rds"
    refine ⟨D, A, 3, rfl, dr9, by decide, fun G1 fz f0 f1 md1 dr1 => ?_⟩
    have hg1 := hg9.mod md1 dr9
    have hv := Dt.keep (B := none) (md1.tp dr9) _ _ nl hv
    have ht := Dt.keep (B := none) (md1.tp dr9) _ _ (by rfl) ht
    clear dr9 hg9 md1
    obtain ⟨ta, rfl, hta⟩ : ∃ ta, t = .ref ta ∧ TupAt K G1 ta [.int i0, .int j0] := by
      cases ht with
      | tup ha hx =>
        cases hx with
        | cons h1 hx =>
        cases h1
        cases hx with
        | cons h2 hx =>
        cases h2
        cases hx
        exact ⟨_, rfl, ha⟩
    have gi : ∀ k : Int, -300 ≤ k → k ≤ 300 → GoodV 0 (.int k) := fun k h1 h2 => int_small (by omega) (by omega)
    have el := ed.lo
    have eh := ed.hi
    refine ⟨fz, 0, rfl, rfl, ?_⟩
    refine ⟨fun σ' H' => ∃ (t' : V) (e0 e1 : PyData) (fb : Bool), σ' = [some (.ref a), some (.ref D), some (.ref A), some (.int n), some (.ref p), some (.int (0 + (i : Int))), some v, some t', some (.bl fb), y9, y10, y11, y12] ∧ Dr H' D A ∧ GrAt C_Group H' p n ∧ Dt K H' none v (.tuple (.str g.s :: r)) ∧ Dt K H' none t' (.tuple [e0, e1]) ∧ fitsT g n e0 e1 = fb ∧ GoodV 0 e0 ∧ GoodV 0 e1, ?_, ?_⟩
    · walk_at "rds"
      by_cases fz0 : fz > 0
      · rw [show decide ((0 : Int) < fz) = true from decide_eq_true fz0]
        walk_at "rds"
        exact ⟨_, _, _, _, rfl, dr1, hg1, hv, ht, ed.fits.trans (decide_eq_true fz0).symm, gi _ (by omega) (by omega), gi _ (by omega) (by omega)⟩
      · rw [show decide ((0 : Int) < fz) = false from decide_eq_false fz0]
        walk_at "rds"
        refine ⟨ta, _, 0, _, rfl, rfl, hta.sq, atI_nat (j := 0) rfl, ?_⟩
        walk_at "rds"
        refine ⟨ta, _, 1, _, rfl, rfl, hta.sq, atI_nat (j := 1) rfl, ?_⟩
        walk_at "rds"
        intro t1 h1
        have s1 := same_upd (o := .tup [V.int (i0 - 200), .int j0]) h1
        have d1 : Dt K (upd G1 t1 (.tup [V.int (i0 - 200), .int j0])) none (.ref t1) (.tuple [.int (i0 - 200), .int j0]) := .tup (.inl upd_same) (.cons (.int _) (.cons (.int _) .nil))
        have hta := hta.same s1
        generalize upd G1 t1 (.tup [V.int (i0 - 200), .int j0]) = J1 at s1 d1 hta
        walk_at "rds"
        refine ⟨ta, _, 0, _, rfl, rfl, hta.sq, atI_nat (j := 0) rfl, ?_⟩
        walk_at "rds"
        refine ⟨ta, _, 1, _, rfl, rfl, hta.sq, atI_nat (j := 1) rfl, ?_⟩
        walk_at "rds"
        intro t2 h2
        have s2 := same_upd (o := .tup [V.int i0, .int (j0 + 200)]) h2
        have d2 : Dt K (upd J1 t2 (.tup [V.int i0, .int (j0 + 200)])) none (.ref t2) (.tuple [.int i0, .int (j0 + 200)]) := .tup (.inl upd_same) (.cons (.int _) (.cons (.int _) .nil))
        have hta := hta.same s2
        have d1 := d1.on s2
        have s2 := s1.trans s2
        generalize upd J1 t2 (.tup [V.int i0, .int (j0 + 200)]) = J2 at s2 d1 d2 hta
        walk_at "rds"
        refine ⟨ta, _, 0, _, rfl, rfl, hta.sq, atI_nat (j := 0) rfl, ?_⟩
        walk_at "rds"
        intro t3 h3
        have s3 := same_upd (o := .tup [V.int i0, .non]) h3
        have d3 : Dt K (upd J2 t3 (.tup [V.int i0, .non])) none (.ref t3) (.tuple [.int i0, .none]) := .tup (.inl upd_same) (.cons (.int _) (.cons .non .nil))
        have d1 := d1.on s3
        have d2 := d2.on s3
        have s3 := s2.trans s3
        generalize upd J2 t3 (.tup [V.int i0, .non]) = J3 at s3 d1 d2 d3
        walk_at "rds"
        intro l hl
        have s4 := same_upd (o := .lst [V.ref t1, .ref t2, .ref t3]) hl
        have dd : DtAll K (upd J3 l (.lst [V.ref t1, .ref t2, .ref t3])) none [V.ref t1, .ref t2, .ref t3] [.tuple [.int (i0 - 200), .int j0], .tuple [.int i0, .int (j0 + 200)], .tuple [.int i0, .none]] := .cons (d1.on s4) (.cons (d2.on s4) (.cons (d3.on s4) .nil))
        have el4 : upd J3 l (.lst [V.ref t1, .ref t2, .ref t3]) l = some (.lst [V.ref t1, .ref t2, .ref t3]) := upd_same
        have s4 := s3.trans s4
        generalize upd J3 l (.lst [V.ref t1, .ref t2, .ref t3]) = J4 at s4 dd el4
        have dr4 := dr1.same s4
        have lA : l ≠ A := fun z => by
          rw [z] at el4
          obtain ⟨_, _, _, _, ea, _⟩ := id dr4
          rw [ea] at el4; cases el4
        walk_at "rds"
        refine ⟨D, A, 3, rfl, dr4, by decide, fun J5 k k0 k1 md5 dr5 => ?_⟩
        have el5 := md5 _ _ lA el4
        have dd5 := DtAll.keep (B := none) (md5.tp dr4) _ _ (by rfl) dd
        have hv5 := Dt.keep (B := none) (md5.tp dr4) _ _ nl (hv.on s4)
        have hg5 := (hg1.on s4).mod md5 dr4
        have fin : ∀ (j : Nat) (x : V) (e0 e1 : PyData), k = (j : Int) → [V.ref t1, .ref t2, .ref t3][j]? = some x → Dt K J5 none x (.tuple [e0, e1]) → fitsT g n e0 e1 = false → GoodV 0 e0 → GoodV 0 e1 →
            ∃ x, atI [V.ref t1, .ref t2, .ref t3] k = some x ∧ ∃ (e0 e1 : PyData), Dt K J5 none x (.tuple [e0, e1]) ∧ fitsT g n e0 e1 = false ∧ GoodV 0 e0 ∧ GoodV 0 e1 := by
          rintro j x e0 e1 rfl gx dx ef g0 g1
          exact ⟨x, atI_nat gx, e0, e1, dx, ef, g0, g1⟩
        obtain ⟨x1, gx1, q1, q2, dx1, ef1, g01, g11⟩ : ∃ x, atI [V.ref t1, .ref t2, .ref t3] k = some x ∧ ∃ (e0 e1 : PyData), Dt K J5 none x (.tuple [e0, e1]) ∧ fitsT g n e0 e1 = false ∧ GoodV 0 e0 ∧ GoodV 0 e1 := by
          cases dd5 with
          | cons a1 r1 =>
          cases r1 with
          | cons a2 r2 =>
          cases r2 with
          | cons a3 r3 =>
          rcases (show k = 0 ∨ k = 1 ∨ k = 2 by omega) with hk | hk | hk
          · exact fin 0 _ _ _ hk rfl a1 (bad_lo (by omega)) (gi _ (by omega) (by omega)) (gi _ (by omega) (by omega))
          · exact fin 1 _ _ _ hk rfl a2 (bad_hi (by omega) (by omega)) (gi _ (by omega) (by omega)) (gi _ (by omega) (by omega))
          · exact fin 2 _ _ _ hk rfl a3 bad_non (gi _ (by omega) (by omega)) good_non
        refine ⟨l, _, k, x1, rfl, rfl, sq el5, gx1, ?_⟩
        exact ⟨x1, q1, q2, _, rfl, dr5, hg5, hv5, dx1, ef1.trans (decide_eq_false fz0).symm, g01, g11⟩
    rintro σ' G2 ⟨t', e0, e1', fb, rfl, dr2, hg2, hv2, ht2, ef, g0, g1⟩
    clear hv ht hta dr1 hg1 ed el eh
    obtain ⟨ta, x0, x1, rfl, hta, h0, h1⟩ : ∃ ta x0 x1, t' = .ref ta ∧ TupAt K G2 ta [x0, x1] ∧ Dt K G2 none x0 e0 ∧ Dt K G2 none x1 e1' := by
      cases ht2 with
      | tup ha hx =>
        cases hx with
        | cons h1 hx =>
        cases hx with
        | cons h2 hx =>
        cases hx
        exact ⟨_, _, _, rfl, ha, h1, h2⟩
    have f3 := fit3 g0 g1 lf
    have fit := f3
    walk_at "rds"
    refine ⟨ta, _, 0, _, rfl, rfl, hta.sq, atI_nat (j := 0) rfl, ?_⟩
    walk_at "rds"
    refine ⟨ta, _, 1, _, rfl, rfl, hta.sq, atI_nat (j := 1) rfl, ?_⟩
    walk_at "rds"
    intro pa hpa
    have s3 := same_upd (o := .tup [x0, x1, v]) hpa
    have dpk : Dt K (upd G2 pa (.tup [x0, x1, v])) none (.ref pa) (.tuple [e0, e1', .tuple (.str g.s :: r)]) := .tup (.inl upd_same) (.cons (h0.on s3) (.cons (h1.on s3) (.cons (hv2.on s3) .nil)))
    have hta := hta.same s3
    have h0 := h0.on s3
    have h1 := h1.on s3
    have hv := hv2.on s3
    have dr3 := dr2.same s3
    have hg3 := hg2.on s3
    clear hv2 dr2 hg2 ht2
    generalize upd G2 pa (.tup [x0, x1, v]) = G3 at s3 dpk hta h0 h1 hv dr3 hg3
    walk_at "rds"
    refine ⟨ta, _, 0, _, rfl, rfl, hta.sq, atI_nat (j := 0) rfl, ?_⟩
    walk_at "rds"
    refine ⟨ta, _, 1, _, rfl, rfl, hta.sq, atI_nat (j := 1) rfl, ?_⟩
    walk_at "rds"
    delta tNil
    have dz := f3.dec
    have fl := f3.len
    have fd := f3.dp
    have pr3 := txD_pr f3.ok
    refine ⟨x0, x1, v, e0, e1', _, rfl, h0, h1, hv, f3, fun G4 s4 => ?_⟩
    walk_at "rds"
    walk_at "isi"
    walk_at "rds"
    refine ⟨.ref pa, _, rfl, dpk.on s4, f3.ok, by omega, by omega, fun G5 s5 => ?_⟩
    have s5 := s4.trans s5
    walk_at "rds"
    refine ifF (by rw [decide_eq_true rfl]; rfl) ?_
    walk_at "rds"
    have hg5 := hg3.on s5
    have unp : ∀ (R : VK) (G : Hp) {E : XK}, Same G5 G → (fb = true → ∀ H' u, Same G H' → Dt K H' none u (.tuple [e0, e1', .tuple (.str g.s :: r)]) → R u H') → (fb = false → ∀ H' u, Same G H' → Dt K H' none u (refD 2) → R u H') →
        spLUnp K C_Group [.ref p, .str (txD (.tuple [e0, e1', .tuple (.str g.s :: r)]))] G R E := by
      intro R G E sG q1 q2
      refine ⟨p, n, _, rfl, hg5.on sG, by omega, pr3, fun no => absurd ⟨_, dz⟩ no, fun d hd nt => ?_, fun ds dr dl hd => ?_⟩
      · have := decZ_one dz hd
        subst this
        cases nt
      · have := decZ_one dz hd
        injection this with this
        injection this with i1 this
        injection this with i2 this
        injection this with i3 this
        subst i1; subst i2; subst i3
        refine ⟨true, fb, ld.is, (fun z => nomatch z), fun g' r' e _ => ?_, q1, q2⟩
        injection e with e
        injection e with e _
        injection e with e
        rw [← Tag.s_inj _ _ e]
        exact ef.symm
    refine ⟨fun σ' H' => ∃ av, σ' = [some (.ref a), some (.ref D), some (.ref A), some (.int n), some (.ref p), some (.int (0 + (i : Int))), some v, some (.ref ta), some (.bl fb), some (.ref pa), some (.str (txD (.tuple [e0, e1', .tuple (.str g.s :: r)]))), some av, y12] ∧ Same G5 H' ∧ ((fb = true ∧ Dt K H' none av (.tuple [e0, e1', .tuple (.str g.s :: r)])) ∨ (fb = false ∧ Dt K H' none av (refD 2))), ?_, ?_⟩
    · walk_at "rds"
      refine unp _ _ (Same.refl _) (fun e H' u s' du => ?_) (fun e H' u s' du => ?_)
      · exact ⟨u, rfl, s', .inl ⟨e, du⟩⟩
      · exact ⟨u, rfl, s', .inr ⟨e, du⟩⟩
    rintro σ' G6 ⟨av, rfl, s6, hav⟩
    walk_at "rds"
    refine ⟨fun σ' H' => σ' = [some (.ref a), some (.ref D), some (.ref A), some (.int n), some (.ref p), some (.int (0 + (i : Int))), some v, some (.ref ta), some (.bl fb), some (.ref pa), some (.str (txD (.tuple [e0, e1', .tuple (.str g.s :: r)]))), some av, y12] ∧ Same G6 H', ?_, ?_⟩
    · rcases hav with ⟨rfl, du⟩ | ⟨rfl, du⟩
      · walk_at "rds"
        refine ⟨av, .ref pa, _, rfl, du, dpk.on (s5.trans s6), f3.ok, by omega, by omega, fun G s => ?_⟩
        walk_at "rds"
        exact ⟨rfl, s⟩
      · walk_at "rds"
        refine ifF rfl ?_
        exact ⟨rfl, Same.refl _⟩
    rintro σ' G7 ⟨rfl, s7⟩
    walk_at "rds"
    refine ⟨fun σ' H' => σ' = [some (.ref a), some (.ref D), some (.ref A), some (.int n), some (.ref p), some (.int (0 + (i : Int))), some v, some (.ref ta), some (.bl fb), some (.ref pa), some (.str (txD (.tuple [e0, e1', .tuple (.str g.s :: r)]))), some av, y12] ∧ Same G7 H', ?_, ?_⟩
    · rcases hav with ⟨rfl, du⟩ | ⟨rfl, du⟩
      · walk_at "rds"
        refine ifF rfl ?_
        exact ⟨rfl, Same.refl _⟩
      · walk_at "rds"
        intro t0 ht0
        have s8 := same_upd (o := .tup [V.str (Str.ofString "refused"), .int 2]) ht0
        have d0 : Dt K (upd G7 t0 (.tup [V.str (Str.ofString "refused"), .int 2])) none (.ref t0) (refD 2) := .tup (.inl upd_same) (.cons (.str _ (by decide +kernel)) (.cons (.int _) .nil))
        have sh := shpL (refD_ly 2)
        walk_at "rds"
        refine ⟨_, _, Dt.dp _ _ (du.on (s7.trans s8)), Dt.dp _ _ d0, sh.1, sh.1, ?_⟩
        rw [sh.2]
        walk_at "rds"
        exact ⟨rfl, s8⟩
    rintro σ' G8 ⟨rfl, s8⟩
    have s8 := (s6.trans s7).trans s8
    clear s6 s7 hav
    have ref1 : ∀ (y : Str) (R : VK) (G : Hp) {E : XK}, Same G5 G → isPr y = true → y.length ≤ 1000000 → (¬ ∃ e, decZ y e) → (∀ H' u, Same G H' → Dt K H' none u (refD 1) → R u H') → spLUnp K C_Group [.ref p, .str y] G R E :=
      fun y R G _ sG py ly no q1 => ⟨p, n, y, rfl, hg5.on sG, ly, py, fun _ => q1, fun d hd => absurd ⟨d, hd⟩ no, fun ds dr dl hd => absurd ⟨_, hd⟩ no⟩
    have t1 : (cutS (txD (.tuple [e0, e1', .tuple (.str g.s :: r)])) none (some (-1))).cps.toList = (txD (.tuple [e0, e1', .tuple (.str g.s :: r)])).cps.toList.take ((txD (.tuple [e0, e1', .tuple (.str g.s :: r)])).length - 1) := cutS_init
    have lt1 := cutS_length (txD (.tuple [e0, e1', .tuple (.str g.s :: r)])) none (some (-1))
    have p1 : isPr (cutS (txD (.tuple [e0, e1', .tuple (.str g.s :: r)])) none (some (-1))) = true := by
      rw [prL_isPr, t1]; exact List.all_eq_true.mpr fun c hc => List.all_eq_true.mp pr3 c (List.mem_of_mem_take hc)
    have n1 := no_init f3 t1
    have lc1 : (Str.ofString "n").length = 1 := rfl
    have l2 : (txD (.tuple [e0, e1', .tuple (.str g.s :: r)]) ++ Str.ofString "n").length = (txD (.tuple [e0, e1', .tuple (.str g.s :: r)])).length + 1 := by rw [len_app2, lc1]
    have p2 : isPr (txD (.tuple [e0, e1', .tuple (.str g.s :: r)]) ++ Str.ofString "n") = true := by
      rw [isPr_app, show isPr (txD (.tuple [e0, e1', .tuple (.str g.s :: r)])) = true from pr3]; decide
    have n2 := no_more (y := txD (.tuple [e0, e1', .tuple (.str g.s :: r)]) ++ Str.ofString "n") (c := 110) f3 (by rw [app_tl]; rfl)
    have sh1 := shpL (refD_ly 1)
    have sh2 := shpL (refD_ly 2)
    walk_at "rds"
    refine ref1 _ _ _ s8 p1 (by omega) n1 (fun J1 u1 j1 du1 => ?_)
    walk_at "rds"
    intro q1 hq1
    have z1 := same_upd (o := .tup [V.str (Str.ofString "refused"), .int 1]) hq1
    have dq1 : Dt K (upd J1 q1 (.tup [V.str (Str.ofString "refused"), .int 1])) none (.ref q1) (refD 1) := .tup (.inl upd_same) (.cons (.str _ (by decide +kernel)) (.cons (.int _) .nil))
    have du1 := du1.on z1
    have z1 := (s8.trans j1).trans z1
    generalize upd J1 q1 (.tup [V.str (Str.ofString "refused"), .int 1]) = J2 at z1 dq1 du1
    walk_at "rds"
    refine ⟨_, _, Dt.dp _ _ du1, Dt.dp _ _ dq1, sh1.1, sh1.1, ?_⟩
    rw [sh1.2]
    walk_at "rds"
    refine ref1 _ _ _ z1 p2 (by omega) n2 (fun J3 u2 j3 du2 => ?_)
    walk_at "rds"
    intro q2 hq2
    have z2 := same_upd (o := .tup [V.str (Str.ofString "refused"), .int 1]) hq2
    have dq2 : Dt K (upd J3 q2 (.tup [V.str (Str.ofString "refused"), .int 1])) none (.ref q2) (refD 1) := .tup (.inl upd_same) (.cons (.str _ (by decide +kernel)) (.cons (.int _) .nil))
    have du2 := du2.on z2
    have z2 := (z1.trans j3).trans z2
    generalize upd J3 q2 (.tup [V.str (Str.ofString "refused"), .int 1]) = J4 at z2 dq2 du2
    walk_at "rds"
    refine ⟨_, _, Dt.dp _ _ du2, Dt.dp _ _ dq2, sh1.1, sh1.1, ?_⟩
    rw [sh1.2]
    walk_at "rds"
    clear n1 n2 p1 p2 t1 lt1 l2 du1 du2 dq1 dq2 s8 j1 j3 hq1 hq2
    -- the four values
    have s34 := s5.trans z2
    have dr4 := dr3.same s34
    have hta := hta.same s34
    have h0 := h0.on s34
    have h1 := h1.on s34
    have hv := hv.on s34
    have hg4 := hg3.on s34
    have dpk := dpk.on s34
    obtain ⟨b0, bs, er, lf1, ff1⟩ := ld.first
    obtain ⟨la, y1, ys, ev, hla, hy1⟩ : ∃ la y1 ys, v = .ref la ∧ TupAt K J4 la (.str g.s :: y1 :: ys) ∧ Dt K J4 none y1 b0 := by
      rw [er] at hv
      cases hv with
      | tup ha hx =>
        cases hx with
        | cons k1 hx =>
        cases k1
        cases hx with
        | cons k2 hx =>
        exact ⟨_, _, _, rfl, ha, k2⟩
    subst ev
    walk_at "rds"
    refine ⟨ta, _, 0, _, rfl, rfl, hta.sq, atI_nat (j := 0) rfl, ?_⟩
    walk_at "rds"
    intro t1 ht1
    have w1 := same_upd (o := .tup [x0, .ref la]) ht1
    have e1 : Dt K (upd J4 t1 (.tup [x0, .ref la])) none (.ref t1) (.tuple [e0, .tuple (.str g.s :: r)]) := .tup (.inl upd_same) (.cons (h0.on w1) (.cons (hv.on w1) .nil))
    have hta := hta.same w1
    have h0 := h0.on w1
    have h1 := h1.on w1
    have hv := hv.on w1
    have hla := hla.same w1
    have hy1 := hy1.on w1
    generalize upd J4 t1 (.tup [x0, .ref la]) = M1 at w1 e1 hta h0 h1 hv hla hy1
    walk_at "rds"
    refine ⟨ta, _, 0, _, rfl, rfl, hta.sq, atI_nat (j := 0) rfl, ?_⟩
    walk_at "rds"
    refine ⟨ta, _, 1, _, rfl, rfl, hta.sq, atI_nat (j := 1) rfl, ?_⟩
    walk_at "rds"
    intro t2 ht2
    have w2 := same_upd (o := .tup [x0, x1, .ref la, .ref la]) ht2
    have e2 : Dt K (upd M1 t2 (.tup [x0, x1, .ref la, .ref la])) none (.ref t2) (.tuple [e0, e1', .tuple (.str g.s :: r), .tuple (.str g.s :: r)]) := .tup (.inl upd_same) (.cons (h0.on w2) (.cons (h1.on w2) (.cons (hv.on w2) (.cons (hv.on w2) .nil))))
    have e1 := e1.on w2
    have hta := hta.same w2
    have h0 := h0.on w2
    have h1 := h1.on w2
    have hla := hla.same w2
    have hy1 := hy1.on w2
    have w2 := w1.trans w2
    generalize upd M1 t2 (.tup [x0, x1, .ref la, .ref la]) = M2 at w2 e1 e2 hta h0 h1 hla hy1
    walk_at "rds"
    refine ⟨la, _, 0, _, rfl, rfl, hla.sq, atI_nat (j := 0) rfl, ?_⟩
    walk_at "rds"
    refine ⟨ta, _, 0, _, rfl, rfl, hta.sq, atI_nat (j := 0) rfl, ?_⟩
    walk_at "rds"
    refine ⟨ta, _, 1, _, rfl, rfl, hta.sq, atI_nat (j := 1) rfl, ?_⟩
    walk_at "rds"
    refine ⟨la, _, 1, _, rfl, rfl, hla.sq, atI_nat (j := 1) rfl, ?_⟩
    walk_at "rds"
    intro t4 ht4
    have w4 := same_upd (o := .tup [x0, x1, y1]) ht4
    have e4 : Dt K (upd M2 t4 (.tup [x0, x1, y1])) none (.ref t4) (.tuple [e0, e1', b0]) := .tup (.inl upd_same) (.cons (h0.on w4) (.cons (h1.on w4) (.cons (hy1.on w4) .nil)))
    have e1 := e1.on w4
    have e2 := e2.on w4
    have w4 := w2.trans w4
    generalize upd M2 t4 (.tup [x0, x1, y1]) = M4 at w4 e1 e2 e4
    walk_at "rds"
    intro l hl
    have w5 := same_upd (o := .lst [V.ref t1, .ref t2, .str g.s, .ref t4]) hl
    have dd : DtAll K (upd M4 l (.lst [V.ref t1, .ref t2, .str g.s, .ref t4])) none [V.ref t1, .ref t2, .str g.s, .ref t4] [.tuple [e0, .tuple (.str g.s :: r)], .tuple [e0, e1', .tuple (.str g.s :: r), .tuple (.str g.s :: r)], .str g.s, .tuple [e0, e1', b0]] :=
      .cons (e1.on w5) (.cons (e2.on w5) (.cons (.str _ (by cases g <;> decide +kernel)) (.cons (e4.on w5) .nil)))
    have el5 : upd M4 l (.lst [V.ref t1, .ref t2, .str g.s, .ref t4]) l = some (.lst [V.ref t1, .ref t2, .str g.s, .ref t4]) := upd_same
    have w5 := w4.trans w5
    generalize upd M4 l (.lst [V.ref t1, .ref t2, .str g.s, .ref t4]) = M5 at w5 dd el5
    have bad : ∀ d ∈ [PyData.tuple [e0, .tuple (.str g.s :: r)], .tuple [e0, e1', .tuple (.str g.s :: r), .tuple (.str g.s :: r)], .str g.s, .tuple [e0, e1', b0]], FitD 12 100000 d ∧ (isTri d = false ∨ ∃ ds dr dl, d = .tuple [ds, dr, dl] ∧ LetIs dl false) := by
      intro d hd
      simp only [List.mem_cons, List.mem_nil_iff, or_false] at hd
      rcases hd with rfl | rfl | rfl | rfl
      · exact ⟨fit2 g0 lf, .inl rfl⟩
      · exact ⟨fit4 g0 g1 lf, .inl rfl⟩
      · exact ⟨tag_fit g, .inl rfl⟩
      · exact ⟨fit3 g0 g1 ff1, .inr ⟨_, _, _, rfl, lf1⟩⟩
    clear e1 e2 e4 hta h0 h1 hla hy1 hv
    generalize [PyData.tuple [e0, .tuple (.str g.s :: r)], .tuple [e0, e1', .tuple (.str g.s :: r), .tuple (.str g.s :: r)], .str g.s, .tuple [e0, e1', b0]] = dl at dd bad
    generalize [V.ref t1, .ref t2, .str g.s, .ref t4] = xs at dd el5 ⊢
    have dr5 := dr4.same w5
    have hg5' := hg4.on w5
    have dpk5 := dpk.on w5
    walk_at "rds"
    refine ⟨⟨xs, sq el5⟩, ?_⟩
    refine for_it (walk_list (K := K) (a := l) (xs := xs)) (Pv := fun j σ H' => ∃ (y : Option V), σ = [some (.ref a), some (.ref D), some (.ref A), some (.int n), some (.ref p), some (.int (0 + (i : Int))), some (.ref la), some (.ref ta), some (.bl fb), some (.ref pa), some (.str (txD (.tuple [e0, e1', .tuple (.str g.s :: r)]))), some av, y] ∧ Same M5 H')
      ⟨_, rfl, Same.refl _⟩ (fun j σ H' _ h => ?_) (fun j x σ N1 N2 hj hp hy => ?_) (fun σ N1 hp => ?_)
    · obtain ⟨_, _, s2⟩ := h
      exact sq (s2 _ _ el5)
    · obtain ⟨y, rfl, s2⟩ := hp
      obtain ⟨rfl, gx⟩ := hy
      obtain ⟨d, gdd, hdx⟩ := (dd.on s2).get gx
      obtain ⟨fd', bd'⟩ := bad d (List.mem_of_getElem? gdd)
      have fl' := fd'.len
      have fp' := fd'.dp
      walk_at "rds"
      refine ⟨x, d, rfl, hdx, fd'.ok, by omega, by omega, fun N3 s3 => ?_⟩
      have dn : ∀ (R : VK) {E : XK}, (∀ H' u, Same N3 H' → Dt K H' none u (refD 2) → R u H') → spLUnp K C_Group [.ref p, .str (txD d)] N3 R E := by
        intro R E q1
        refine ⟨p, n, _, rfl, hg5'.on (s2.trans s3), by omega, txD_pr fd'.ok, fun no => absurd ⟨_, fd'.dec⟩ no, fun d' hd nt => q1, fun ds dr dl0 hd => ?_⟩
        have := decZ_one fd'.dec hd
        subst this
        rcases bd' with h | ⟨_, _, _, h, li⟩
        · cases h
        · cases h
          exact ⟨false, false, li, (fun _ => rfl), (fun _ _ _ z => nomatch z), (fun z => nomatch z), fun _ => q1⟩
      walk_at "rds"
      refine dn _ (fun N4 u s4 du => ?_)
      walk_at "rds"
      intro q3 hq3
      have z3 := same_upd (o := .tup [V.str (Str.ofString "refused"), .int 2]) hq3
      have dq3 : Dt K (upd N4 q3 (.tup [V.str (Str.ofString "refused"), .int 2])) none (.ref q3) (refD 2) := .tup (.inl upd_same) (.cons (.str _ (by decide +kernel)) (.cons (.int _) .nil))
      walk_at "rds"
      refine ⟨_, _, Dt.dp _ _ (du.on z3), Dt.dp _ _ dq3, sh2.1, sh2.1, ?_⟩
      rw [sh2.2]
      walk_at "rds"
      exact ⟨_, rfl, ((s2.trans s3).trans s4).trans z3⟩
    · obtain ⟨y, rfl, s2⟩ := hp
      have s2' := (z2.trans w5).trans s2
      cases fb with
      | true =>
        walk_at "rds"
        refine unp _ _ s2' (fun _ N3 u s3 du => ?_) (fun z => nomatch z)
        walk_at "rds"
        refine ⟨u, .ref pa, _, rfl, du, dpk5.on (s2.trans s3), f3.ok, by omega, by omega, fun N4 s4 => ?_⟩
        have s24 := (s2.trans s3).trans s4
        walk_at "rds"
        exact ⟨_, _, _, _, _, _, _, _, rfl, dr5.same s24, hg5'.on s24⟩
      | false =>
        walk_at "rds"
        refine ifF rfl ?_
        exact ⟨_, _, _, _, _, _, _, _, rfl, dr5.same s2, hg5'.on s2⟩
  · obtain ⟨y5, y6, y7, y8, y9, y10, y11, y12, rfl, dr, hg⟩ := hp
    walk_at "rds"
    exact q _
end

theorem fin {C_Group : Addr} {C_BadGroup : Addr} {C_BadLetter : Addr} {C_BadText : Addr} {C_FORMS : Addr} {C_CONSTANTS : Addr} {P : Program} {w : World} {K : PySem.W.Frag} {mg : Str → Option Value} {fa : Addr} (hfa : mg "law" = some (.ref fa)) (T : Txt K mg w C_Group C_BadGroup C_BadLetter C_BadText C_FORMS C_CONSTANTS) :
    ∃ fd : FuncData, (∀ (s : Shared) (u : Value), BindsTo s fd ⟨[u], []⟩ [("script", u)]) ∧ ∀ base : Heap, K.In base → base.Ns mainGlobals mg → FnOk P w K mg base L2.CX0 40 fa fd ["script"] (spLaw K) := by
  obtain ⟨f, fd, F, hm, b⟩ := T.d_law.ex
  cases hfa.symm.trans hm
  refine ⟨fd, fun s u => ?_, fun base _ _ => ok_law F T⟩
  obtain ⟨oc, od, kV, doc, pm, an, cdv, ct, osl, rfl, l, _⟩ := F.ex
  exact .of_eq rfl

theorem all_mk {K : PySem.W.Frag} {h : Heap} {mg : Str → Option Value} {w : World} (X : K.In h) (G : h.Ns mainGlobals mg)
    {f_is_integer : Addr} {od_is_integer an_is_integer : Option Addr} {sl_is_integer : Array (Option Value)} {oc_is_integer kV_is_integer dc_is_integer pm_is_integer cd_is_integer ct_is_integer : Value}
    {f_is_printable : Addr} {od_is_printable an_is_printable : Option Addr} {sl_is_printable : Array (Option Value)} {oc_is_printable kV_is_printable dc_is_printable pm_is_printable cd_is_printable ct_is_printable : Value}
    {f_is_short : Addr} {od_is_short an_is_short : Option Addr} {sl_is_short : Array (Option Value)} {oc_is_short kV_is_short dc_is_short pm_is_short cd_is_short ct_is_short : Value}
    {f_is_decimal : Addr} {od_is_decimal an_is_decimal : Option Addr} {sl_is_decimal : Array (Option Value)} {oc_is_decimal kV_is_decimal dc_is_decimal pm_is_decimal cd_is_decimal ct_is_decimal : Value}
    {f_encode : Addr} {od_encode an_encode : Option Addr} {sl_encode : Array (Option Value)} {oc_encode kV_encode dc_encode pm_encode cd_encode ct_encode : Value}
    {f_text_of : Addr} {od_text_of an_text_of : Option Addr} {sl_text_of : Array (Option Value)} {oc_text_of kV_text_of dc_text_of pm_text_of cd_text_of ct_text_of : Value}
    {f_tuple_text : Addr} {od_tuple_text an_tuple_text : Option Addr} {sl_tuple_text : Array (Option Value)} {oc_tuple_text kV_tuple_text dc_tuple_text pm_tuple_text cd_tuple_text ct_tuple_text : Value}
    {f_single_text : Addr} {od_single_text an_single_text : Option Addr} {sl_single_text : Array (Option Value)} {oc_single_text kV_single_text dc_single_text pm_single_text cd_single_text ct_single_text : Value}
    {f_has_few_digits : Addr} {od_has_few_digits an_has_few_digits : Option Addr} {sl_has_few_digits : Array (Option Value)} {oc_has_few_digits kV_has_few_digits dc_has_few_digits pm_has_few_digits cd_has_few_digits ct_has_few_digits : Value}
    {f_decode : Addr} {od_decode an_decode : Option Addr} {sl_decode : Array (Option Value)} {oc_decode kV_decode dc_decode pm_decode cd_decode ct_decode : Value}
    {f_read_value : Addr} {od_read_value an_read_value : Option Addr} {sl_read_value : Array (Option Value)} {oc_read_value kV_read_value dc_read_value pm_read_value cd_read_value ct_read_value : Value}
    {f_value_at : Addr} {od_value_at an_value_at : Option Addr} {sl_value_at : Array (Option Value)} {oc_value_at kV_value_at dc_value_at pm_value_at cd_value_at ct_value_at : Value}
    {f_number_at : Addr} {od_number_at an_number_at : Option Addr} {sl_number_at : Array (Option Value)} {oc_number_at kV_number_at dc_number_at pm_number_at cd_number_at ct_number_at : Value}
    {f_integer_at : Addr} {od_integer_at an_integer_at : Option Addr} {sl_integer_at : Array (Option Value)} {oc_integer_at kV_integer_at dc_integer_at pm_integer_at cd_integer_at ct_integer_at : Value}
    {f_string_at : Addr} {od_string_at an_string_at : Option Addr} {sl_string_at : Array (Option Value)} {oc_string_at kV_string_at dc_string_at pm_string_at cd_string_at ct_string_at : Value}
    {f_tuple_at : Addr} {od_tuple_at an_tuple_at : Option Addr} {sl_tuple_at : Array (Option Value)} {oc_tuple_at kV_tuple_at dc_tuple_at pm_tuple_at cd_tuple_at ct_tuple_at : Value}
    {f_is_client : Addr} {od_is_client an_is_client : Option Addr} {sl_is_client : Array (Option Value)} {oc_is_client kV_is_client dc_is_client pm_is_client cd_is_client ct_is_client : Value}
    {f_is_number : Addr} {od_is_number an_is_number : Option Addr} {sl_is_number : Array (Option Value)} {oc_is_number kV_is_number dc_is_number pm_is_number cd_is_number ct_is_number : Value}
    {f_is_command : Addr} {od_is_command an_is_command : Option Addr} {sl_is_command : Array (Option Value)} {oc_is_command kV_is_command dc_is_command pm_is_command cd_is_command ct_is_command : Value}
    {f_is_command_list : Addr} {od_is_command_list an_is_command_list : Option Addr} {sl_is_command_list : Array (Option Value)} {oc_is_command_list kV_is_command_list dc_is_command_list pm_is_command_list cd_is_command_list ct_is_command_list : Value}
    {f_is_block : Addr} {od_is_block an_is_block : Option Addr} {sl_is_block : Array (Option Value)} {oc_is_block kV_is_block dc_is_block pm_is_block cd_is_block ct_is_block : Value}
    {f_is_height_above : Addr} {od_is_height_above an_is_height_above : Option Addr} {sl_is_height_above : Array (Option Value)} {oc_is_height_above kV_is_height_above dc_is_height_above pm_is_height_above cd_is_height_above ct_is_height_above : Value}
    {f_holds_vouch : Addr} {od_holds_vouch an_holds_vouch : Option Addr} {sl_holds_vouch : Array (Option Value)} {oc_holds_vouch kV_holds_vouch dc_holds_vouch pm_holds_vouch cd_holds_vouch ct_holds_vouch : Value}
    {f_holds_block : Addr} {od_holds_block an_holds_block : Option Addr} {sl_holds_block : Array (Option Value)} {oc_holds_block kV_holds_block dc_holds_block pm_holds_block cd_holds_block ct_holds_block : Value}
    {f_holds_claim : Addr} {od_holds_claim an_holds_claim : Option Addr} {sl_holds_claim : Array (Option Value)} {oc_holds_claim kV_holds_claim dc_holds_claim pm_holds_claim cd_holds_claim ct_holds_claim : Value}
    {f_holds_give : Addr} {od_holds_give an_holds_give : Option Addr} {sl_holds_give : Array (Option Value)} {oc_holds_give kV_holds_give dc_holds_give pm_holds_give cd_holds_give ct_holds_give : Value}
    {f_holds_request : Addr} {od_holds_request an_holds_request : Option Addr} {sl_holds_request : Array (Option Value)} {oc_holds_request kV_holds_request dc_holds_request pm_holds_request cd_holds_request ct_holds_request : Value}
    {f_holds_answer : Addr} {od_holds_answer an_holds_answer : Option Addr} {sl_holds_answer : Array (Option Value)} {oc_holds_answer kV_holds_answer dc_holds_answer pm_holds_answer cd_holds_answer ct_holds_answer : Value}
    {f_is_letter : Addr} {od_is_letter an_is_letter : Option Addr} {sl_is_letter : Array (Option Value)} {oc_is_letter kV_is_letter dc_is_letter pm_is_letter cd_is_letter ct_is_letter : Value}
    {f_route : Addr} {od_route an_route : Option Addr} {sl_route : Array (Option Value)} {oc_route kV_route dc_route pm_route cd_route ct_route : Value}
    {f_check_letter : Addr} {od_check_letter an_check_letter : Option Addr} {sl_check_letter : Array (Option Value)} {oc_check_letter kV_check_letter dc_check_letter pm_check_letter cd_check_letter ct_check_letter : Value}
    {f_pack : Addr} {od_pack an_pack : Option Addr} {sl_pack : Array (Option Value)} {oc_pack kV_pack dc_pack pm_pack cd_pack ct_pack : Value}
    {f_unpack : Addr} {od_unpack an_unpack : Option Addr} {sl_unpack : Array (Option Value)} {oc_unpack kV_unpack dc_unpack pm_unpack cd_unpack ct_unpack : Value}
    {f__law_draws : Addr} {od__law_draws an__law_draws : Option Addr} {sl__law_draws : Array (Option Value)} {oc__law_draws kV__law_draws dc__law_draws pm__law_draws cd__law_draws ct__law_draws : Value}
    {f__law_next : Addr} {od__law_next an__law_next : Option Addr} {sl__law_next : Array (Option Value)} {oc__law_next kV__law_next dc__law_next pm__law_next cd__law_next ct__law_next : Value}
    {f__law_big : Addr} {od__law_big an__law_big : Option Addr} {sl__law_big : Array (Option Value)} {oc__law_big kV__law_big dc__law_big pm__law_big cd__law_big ct__law_big : Value}
    {f__law_char : Addr} {od__law_char an__law_char : Option Addr} {sl__law_char : Array (Option Value)} {oc__law_char kV__law_char dc__law_char pm__law_char cd__law_char ct__law_char : Value}
    {f__law_string : Addr} {od__law_string an__law_string : Option Addr} {sl__law_string : Array (Option Value)} {oc__law_string kV__law_string dc__law_string pm__law_string cd__law_string ct__law_string : Value}
    {f__law_command : Addr} {od__law_command an__law_command : Option Addr} {sl__law_command : Array (Option Value)} {oc__law_command kV__law_command dc__law_command pm__law_command cd__law_command ct__law_command : Value}
    {f__law_commands : Addr} {od__law_commands an__law_commands : Option Addr} {sl__law_commands : Array (Option Value)} {oc__law_commands kV__law_commands dc__law_commands pm__law_commands cd__law_commands ct__law_commands : Value}
    {f__law_block : Addr} {od__law_block an__law_block : Option Addr} {sl__law_block : Array (Option Value)} {oc__law_block kV__law_block dc__law_block pm__law_block cd__law_block ct__law_block : Value}
    {f__law_letter : Addr} {od__law_letter an__law_letter : Option Addr} {sl__law_letter : Array (Option Value)} {oc__law_letter kV__law_letter dc__law_letter pm__law_letter cd__law_letter ct__law_letter : Value}
    {f__law_kind : Addr} {od__law_kind an__law_kind : Option Addr} {sl__law_kind : Array (Option Value)} {oc__law_kind kV__law_kind dc__law_kind pm__law_kind cd__law_kind ct__law_kind : Value}
    {f__law_same : Addr} {od__law_same an__law_same : Option Addr} {sl__law_same : Array (Option Value)} {oc__law_same kV__law_same dc__law_same pm__law_same cd__law_same ct__law_same : Value}
    {f__law_text : Addr} {od__law_text an__law_text : Option Addr} {sl__law_text : Array (Option Value)} {oc__law_text kV__law_text dc__law_text pm__law_text cd__law_text ct__law_text : Value}
    {f__law_unpacked : Addr} {od__law_unpacked an__law_unpacked : Option Addr} {sl__law_unpacked : Array (Option Value)} {oc__law_unpacked kV__law_unpacked dc__law_unpacked pm__law_unpacked cd__law_unpacked ct__law_unpacked : Value}
    {f__law_ends : Addr} {od__law_ends an__law_ends : Option Addr} {sl__law_ends : Array (Option Value)} {oc__law_ends kV__law_ends dc__law_ends pm__law_ends cd__law_ends ct__law_ends : Value}
    {f_law : Addr} {od_law an_law : Option Addr} {sl_law : Array (Option Value)} {oc_law kV_law dc_law pm_law cd_law ct_law : Value}
    {C_Group : Addr}
    {f_Group____init__ : Addr} {od_Group____init__ an_Group____init__ : Option Addr} {sl_Group____init__ : Array (Option Value)} {oc_Group____init__ kV_Group____init__ dc_Group____init__ pm_Group____init__ cd_Group____init__ ct_Group____init__ : Value}
    {f_Group__is_member : Addr} {od_Group__is_member an_Group__is_member : Option Addr} {sl_Group__is_member : Array (Option Value)} {oc_Group__is_member kV_Group__is_member dc_Group__is_member pm_Group__is_member cd_Group__is_member ct_Group__is_member : Value}
    {C_BadGroup : Addr}
    {C_BadLetter : Addr}
    {C_BadText : Addr}
    {C_FORMS : Addr} {es_FORMS : Array DictEntry} {n_FORMS : Nat}
    {C_CONSTANTS : Addr} {es_CONSTANTS : Array DictEntry} {n_CONSTANTS : Nat}
    {t_MOST_ANSWER : Tok}
    {t_MOST_CLIENTS : Tok}
    {t_MOST_DEPTH : Tok}
    {t_MOST_DIGITS : Tok}
    {t_MOST_FAULTS : Tok}
    {t_MOST_LENGTH : Tok}
    {t_MOST_NUMBER : Tok}
    {t_MOST_TEXT : Tok}
    (a_is_integer : PySem.W.nsIn K mainGlobals "is_integer" = some (some (.ref f_is_integer)))
    (l_is_integer : K.lookup f_is_integer = some ⟨oc_is_integer, od_is_integer, .func (PySem.W.fnOf "is_integer" "is_integer" (defArgs s_is_integer) (defBody s_is_integer) (defScope s_is_integer) .none kV_is_integer dc_is_integer pm_is_integer an_is_integer cd_is_integer ct_is_integer), sl_is_integer⟩)
    (e_is_integer : PySem.W.codeIn K cd_is_integer "is_integer" = true)
    (k_is_integer : PySem.W.keepIn K (.ref f_is_integer) = true)
    (a_is_printable : PySem.W.nsIn K mainGlobals "is_printable" = some (some (.ref f_is_printable)))
    (l_is_printable : K.lookup f_is_printable = some ⟨oc_is_printable, od_is_printable, .func (PySem.W.fnOf "is_printable" "is_printable" (defArgs s_is_printable) (defBody s_is_printable) (defScope s_is_printable) .none kV_is_printable dc_is_printable pm_is_printable an_is_printable cd_is_printable ct_is_printable), sl_is_printable⟩)
    (e_is_printable : PySem.W.codeIn K cd_is_printable "is_printable" = true)
    (k_is_printable : PySem.W.keepIn K (.ref f_is_printable) = true)
    (a_is_short : PySem.W.nsIn K mainGlobals "is_short" = some (some (.ref f_is_short)))
    (l_is_short : K.lookup f_is_short = some ⟨oc_is_short, od_is_short, .func (PySem.W.fnOf "is_short" "is_short" (defArgs s_is_short) (defBody s_is_short) (defScope s_is_short) .none kV_is_short dc_is_short pm_is_short an_is_short cd_is_short ct_is_short), sl_is_short⟩)
    (e_is_short : PySem.W.codeIn K cd_is_short "is_short" = true)
    (k_is_short : PySem.W.keepIn K (.ref f_is_short) = true)
    (a_is_decimal : PySem.W.nsIn K mainGlobals "is_decimal" = some (some (.ref f_is_decimal)))
    (l_is_decimal : K.lookup f_is_decimal = some ⟨oc_is_decimal, od_is_decimal, .func (PySem.W.fnOf "is_decimal" "is_decimal" (defArgs s_is_decimal) (defBody s_is_decimal) (defScope s_is_decimal) .none kV_is_decimal dc_is_decimal pm_is_decimal an_is_decimal cd_is_decimal ct_is_decimal), sl_is_decimal⟩)
    (e_is_decimal : PySem.W.codeIn K cd_is_decimal "is_decimal" = true)
    (k_is_decimal : PySem.W.keepIn K (.ref f_is_decimal) = true)
    (a_encode : PySem.W.nsIn K mainGlobals "encode" = some (some (.ref f_encode)))
    (l_encode : K.lookup f_encode = some ⟨oc_encode, od_encode, .func (PySem.W.fnOf "encode" "encode" (defArgs s_encode) (defBody s_encode) (defScope s_encode) .none kV_encode dc_encode pm_encode an_encode cd_encode ct_encode), sl_encode⟩)
    (e_encode : PySem.W.codeIn K cd_encode "encode" = true)
    (k_encode : PySem.W.keepIn K (.ref f_encode) = true)
    (a_text_of : PySem.W.nsIn K mainGlobals "text_of" = some (some (.ref f_text_of)))
    (l_text_of : K.lookup f_text_of = some ⟨oc_text_of, od_text_of, .func (PySem.W.fnOf "text_of" "text_of" (defArgs s_text_of) (defBody s_text_of) (defScope s_text_of) .none kV_text_of dc_text_of pm_text_of an_text_of cd_text_of ct_text_of), sl_text_of⟩)
    (e_text_of : PySem.W.codeIn K cd_text_of "text_of" = true)
    (k_text_of : PySem.W.keepIn K (.ref f_text_of) = true)
    (a_tuple_text : PySem.W.nsIn K mainGlobals "tuple_text" = some (some (.ref f_tuple_text)))
    (l_tuple_text : K.lookup f_tuple_text = some ⟨oc_tuple_text, od_tuple_text, .func (PySem.W.fnOf "tuple_text" "tuple_text" (defArgs s_tuple_text) (defBody s_tuple_text) (defScope s_tuple_text) .none kV_tuple_text dc_tuple_text pm_tuple_text an_tuple_text cd_tuple_text ct_tuple_text), sl_tuple_text⟩)
    (e_tuple_text : PySem.W.codeIn K cd_tuple_text "tuple_text" = true)
    (k_tuple_text : PySem.W.keepIn K (.ref f_tuple_text) = true)
    (a_single_text : PySem.W.nsIn K mainGlobals "single_text" = some (some (.ref f_single_text)))
    (l_single_text : K.lookup f_single_text = some ⟨oc_single_text, od_single_text, .func (PySem.W.fnOf "single_text" "single_text" (defArgs s_single_text) (defBody s_single_text) (defScope s_single_text) .none kV_single_text dc_single_text pm_single_text an_single_text cd_single_text ct_single_text), sl_single_text⟩)
    (e_single_text : PySem.W.codeIn K cd_single_text "single_text" = true)
    (k_single_text : PySem.W.keepIn K (.ref f_single_text) = true)
    (a_has_few_digits : PySem.W.nsIn K mainGlobals "has_few_digits" = some (some (.ref f_has_few_digits)))
    (l_has_few_digits : K.lookup f_has_few_digits = some ⟨oc_has_few_digits, od_has_few_digits, .func (PySem.W.fnOf "has_few_digits" "has_few_digits" (defArgs s_has_few_digits) (defBody s_has_few_digits) (defScope s_has_few_digits) .none kV_has_few_digits dc_has_few_digits pm_has_few_digits an_has_few_digits cd_has_few_digits ct_has_few_digits), sl_has_few_digits⟩)
    (e_has_few_digits : PySem.W.codeIn K cd_has_few_digits "has_few_digits" = true)
    (k_has_few_digits : PySem.W.keepIn K (.ref f_has_few_digits) = true)
    (a_decode : PySem.W.nsIn K mainGlobals "decode" = some (some (.ref f_decode)))
    (l_decode : K.lookup f_decode = some ⟨oc_decode, od_decode, .func (PySem.W.fnOf "decode" "decode" (defArgs s_decode) (defBody s_decode) (defScope s_decode) .none kV_decode dc_decode pm_decode an_decode cd_decode ct_decode), sl_decode⟩)
    (e_decode : PySem.W.codeIn K cd_decode "decode" = true)
    (k_decode : PySem.W.keepIn K (.ref f_decode) = true)
    (a_read_value : PySem.W.nsIn K mainGlobals "read_value" = some (some (.ref f_read_value)))
    (l_read_value : K.lookup f_read_value = some ⟨oc_read_value, od_read_value, .func (PySem.W.fnOf "read_value" "read_value" (defArgs s_read_value) (defBody s_read_value) (defScope s_read_value) .none kV_read_value dc_read_value pm_read_value an_read_value cd_read_value ct_read_value), sl_read_value⟩)
    (e_read_value : PySem.W.codeIn K cd_read_value "read_value" = true)
    (k_read_value : PySem.W.keepIn K (.ref f_read_value) = true)
    (a_value_at : PySem.W.nsIn K mainGlobals "value_at" = some (some (.ref f_value_at)))
    (l_value_at : K.lookup f_value_at = some ⟨oc_value_at, od_value_at, .func (PySem.W.fnOf "value_at" "value_at" (defArgs s_value_at) (defBody s_value_at) (defScope s_value_at) .none kV_value_at dc_value_at pm_value_at an_value_at cd_value_at ct_value_at), sl_value_at⟩)
    (e_value_at : PySem.W.codeIn K cd_value_at "value_at" = true)
    (k_value_at : PySem.W.keepIn K (.ref f_value_at) = true)
    (a_number_at : PySem.W.nsIn K mainGlobals "number_at" = some (some (.ref f_number_at)))
    (l_number_at : K.lookup f_number_at = some ⟨oc_number_at, od_number_at, .func (PySem.W.fnOf "number_at" "number_at" (defArgs s_number_at) (defBody s_number_at) (defScope s_number_at) .none kV_number_at dc_number_at pm_number_at an_number_at cd_number_at ct_number_at), sl_number_at⟩)
    (e_number_at : PySem.W.codeIn K cd_number_at "number_at" = true)
    (k_number_at : PySem.W.keepIn K (.ref f_number_at) = true)
    (a_integer_at : PySem.W.nsIn K mainGlobals "integer_at" = some (some (.ref f_integer_at)))
    (l_integer_at : K.lookup f_integer_at = some ⟨oc_integer_at, od_integer_at, .func (PySem.W.fnOf "integer_at" "integer_at" (defArgs s_integer_at) (defBody s_integer_at) (defScope s_integer_at) .none kV_integer_at dc_integer_at pm_integer_at an_integer_at cd_integer_at ct_integer_at), sl_integer_at⟩)
    (e_integer_at : PySem.W.codeIn K cd_integer_at "integer_at" = true)
    (k_integer_at : PySem.W.keepIn K (.ref f_integer_at) = true)
    (a_string_at : PySem.W.nsIn K mainGlobals "string_at" = some (some (.ref f_string_at)))
    (l_string_at : K.lookup f_string_at = some ⟨oc_string_at, od_string_at, .func (PySem.W.fnOf "string_at" "string_at" (defArgs s_string_at) (defBody s_string_at) (defScope s_string_at) .none kV_string_at dc_string_at pm_string_at an_string_at cd_string_at ct_string_at), sl_string_at⟩)
    (e_string_at : PySem.W.codeIn K cd_string_at "string_at" = true)
    (k_string_at : PySem.W.keepIn K (.ref f_string_at) = true)
    (a_tuple_at : PySem.W.nsIn K mainGlobals "tuple_at" = some (some (.ref f_tuple_at)))
    (l_tuple_at : K.lookup f_tuple_at = some ⟨oc_tuple_at, od_tuple_at, .func (PySem.W.fnOf "tuple_at" "tuple_at" (defArgs s_tuple_at) (defBody s_tuple_at) (defScope s_tuple_at) .none kV_tuple_at dc_tuple_at pm_tuple_at an_tuple_at cd_tuple_at ct_tuple_at), sl_tuple_at⟩)
    (e_tuple_at : PySem.W.codeIn K cd_tuple_at "tuple_at" = true)
    (k_tuple_at : PySem.W.keepIn K (.ref f_tuple_at) = true)
    (a_is_client : PySem.W.nsIn K mainGlobals "is_client" = some (some (.ref f_is_client)))
    (l_is_client : K.lookup f_is_client = some ⟨oc_is_client, od_is_client, .func (PySem.W.fnOf "is_client" "is_client" (defArgs s_is_client) (defBody s_is_client) (defScope s_is_client) .none kV_is_client dc_is_client pm_is_client an_is_client cd_is_client ct_is_client), sl_is_client⟩)
    (e_is_client : PySem.W.codeIn K cd_is_client "is_client" = true)
    (k_is_client : PySem.W.keepIn K (.ref f_is_client) = true)
    (a_is_number : PySem.W.nsIn K mainGlobals "is_number" = some (some (.ref f_is_number)))
    (l_is_number : K.lookup f_is_number = some ⟨oc_is_number, od_is_number, .func (PySem.W.fnOf "is_number" "is_number" (defArgs s_is_number) (defBody s_is_number) (defScope s_is_number) .none kV_is_number dc_is_number pm_is_number an_is_number cd_is_number ct_is_number), sl_is_number⟩)
    (e_is_number : PySem.W.codeIn K cd_is_number "is_number" = true)
    (k_is_number : PySem.W.keepIn K (.ref f_is_number) = true)
    (a_is_command : PySem.W.nsIn K mainGlobals "is_command" = some (some (.ref f_is_command)))
    (l_is_command : K.lookup f_is_command = some ⟨oc_is_command, od_is_command, .func (PySem.W.fnOf "is_command" "is_command" (defArgs s_is_command) (defBody s_is_command) (defScope s_is_command) .none kV_is_command dc_is_command pm_is_command an_is_command cd_is_command ct_is_command), sl_is_command⟩)
    (e_is_command : PySem.W.codeIn K cd_is_command "is_command" = true)
    (k_is_command : PySem.W.keepIn K (.ref f_is_command) = true)
    (a_is_command_list : PySem.W.nsIn K mainGlobals "is_command_list" = some (some (.ref f_is_command_list)))
    (l_is_command_list : K.lookup f_is_command_list = some ⟨oc_is_command_list, od_is_command_list, .func (PySem.W.fnOf "is_command_list" "is_command_list" (defArgs s_is_command_list) (defBody s_is_command_list) (defScope s_is_command_list) .none kV_is_command_list dc_is_command_list pm_is_command_list an_is_command_list cd_is_command_list ct_is_command_list), sl_is_command_list⟩)
    (e_is_command_list : PySem.W.codeIn K cd_is_command_list "is_command_list" = true)
    (k_is_command_list : PySem.W.keepIn K (.ref f_is_command_list) = true)
    (a_is_block : PySem.W.nsIn K mainGlobals "is_block" = some (some (.ref f_is_block)))
    (l_is_block : K.lookup f_is_block = some ⟨oc_is_block, od_is_block, .func (PySem.W.fnOf "is_block" "is_block" (defArgs s_is_block) (defBody s_is_block) (defScope s_is_block) .none kV_is_block dc_is_block pm_is_block an_is_block cd_is_block ct_is_block), sl_is_block⟩)
    (e_is_block : PySem.W.codeIn K cd_is_block "is_block" = true)
    (k_is_block : PySem.W.keepIn K (.ref f_is_block) = true)
    (a_is_height_above : PySem.W.nsIn K mainGlobals "is_height_above" = some (some (.ref f_is_height_above)))
    (l_is_height_above : K.lookup f_is_height_above = some ⟨oc_is_height_above, od_is_height_above, .func (PySem.W.fnOf "is_height_above" "is_height_above" (defArgs s_is_height_above) (defBody s_is_height_above) (defScope s_is_height_above) .none kV_is_height_above dc_is_height_above pm_is_height_above an_is_height_above cd_is_height_above ct_is_height_above), sl_is_height_above⟩)
    (e_is_height_above : PySem.W.codeIn K cd_is_height_above "is_height_above" = true)
    (k_is_height_above : PySem.W.keepIn K (.ref f_is_height_above) = true)
    (a_holds_vouch : PySem.W.nsIn K mainGlobals "holds_vouch" = some (some (.ref f_holds_vouch)))
    (l_holds_vouch : K.lookup f_holds_vouch = some ⟨oc_holds_vouch, od_holds_vouch, .func (PySem.W.fnOf "holds_vouch" "holds_vouch" (defArgs s_holds_vouch) (defBody s_holds_vouch) (defScope s_holds_vouch) .none kV_holds_vouch dc_holds_vouch pm_holds_vouch an_holds_vouch cd_holds_vouch ct_holds_vouch), sl_holds_vouch⟩)
    (e_holds_vouch : PySem.W.codeIn K cd_holds_vouch "holds_vouch" = true)
    (k_holds_vouch : PySem.W.keepIn K (.ref f_holds_vouch) = true)
    (a_holds_block : PySem.W.nsIn K mainGlobals "holds_block" = some (some (.ref f_holds_block)))
    (l_holds_block : K.lookup f_holds_block = some ⟨oc_holds_block, od_holds_block, .func (PySem.W.fnOf "holds_block" "holds_block" (defArgs s_holds_block) (defBody s_holds_block) (defScope s_holds_block) .none kV_holds_block dc_holds_block pm_holds_block an_holds_block cd_holds_block ct_holds_block), sl_holds_block⟩)
    (e_holds_block : PySem.W.codeIn K cd_holds_block "holds_block" = true)
    (k_holds_block : PySem.W.keepIn K (.ref f_holds_block) = true)
    (a_holds_claim : PySem.W.nsIn K mainGlobals "holds_claim" = some (some (.ref f_holds_claim)))
    (l_holds_claim : K.lookup f_holds_claim = some ⟨oc_holds_claim, od_holds_claim, .func (PySem.W.fnOf "holds_claim" "holds_claim" (defArgs s_holds_claim) (defBody s_holds_claim) (defScope s_holds_claim) .none kV_holds_claim dc_holds_claim pm_holds_claim an_holds_claim cd_holds_claim ct_holds_claim), sl_holds_claim⟩)
    (e_holds_claim : PySem.W.codeIn K cd_holds_claim "holds_claim" = true)
    (k_holds_claim : PySem.W.keepIn K (.ref f_holds_claim) = true)
    (a_holds_give : PySem.W.nsIn K mainGlobals "holds_give" = some (some (.ref f_holds_give)))
    (l_holds_give : K.lookup f_holds_give = some ⟨oc_holds_give, od_holds_give, .func (PySem.W.fnOf "holds_give" "holds_give" (defArgs s_holds_give) (defBody s_holds_give) (defScope s_holds_give) .none kV_holds_give dc_holds_give pm_holds_give an_holds_give cd_holds_give ct_holds_give), sl_holds_give⟩)
    (e_holds_give : PySem.W.codeIn K cd_holds_give "holds_give" = true)
    (k_holds_give : PySem.W.keepIn K (.ref f_holds_give) = true)
    (a_holds_request : PySem.W.nsIn K mainGlobals "holds_request" = some (some (.ref f_holds_request)))
    (l_holds_request : K.lookup f_holds_request = some ⟨oc_holds_request, od_holds_request, .func (PySem.W.fnOf "holds_request" "holds_request" (defArgs s_holds_request) (defBody s_holds_request) (defScope s_holds_request) .none kV_holds_request dc_holds_request pm_holds_request an_holds_request cd_holds_request ct_holds_request), sl_holds_request⟩)
    (e_holds_request : PySem.W.codeIn K cd_holds_request "holds_request" = true)
    (k_holds_request : PySem.W.keepIn K (.ref f_holds_request) = true)
    (a_holds_answer : PySem.W.nsIn K mainGlobals "holds_answer" = some (some (.ref f_holds_answer)))
    (l_holds_answer : K.lookup f_holds_answer = some ⟨oc_holds_answer, od_holds_answer, .func (PySem.W.fnOf "holds_answer" "holds_answer" (defArgs s_holds_answer) (defBody s_holds_answer) (defScope s_holds_answer) .none kV_holds_answer dc_holds_answer pm_holds_answer an_holds_answer cd_holds_answer ct_holds_answer), sl_holds_answer⟩)
    (e_holds_answer : PySem.W.codeIn K cd_holds_answer "holds_answer" = true)
    (k_holds_answer : PySem.W.keepIn K (.ref f_holds_answer) = true)
    (a_is_letter : PySem.W.nsIn K mainGlobals "is_letter" = some (some (.ref f_is_letter)))
    (l_is_letter : K.lookup f_is_letter = some ⟨oc_is_letter, od_is_letter, .func (PySem.W.fnOf "is_letter" "is_letter" (defArgs s_is_letter) (defBody s_is_letter) (defScope s_is_letter) .none kV_is_letter dc_is_letter pm_is_letter an_is_letter cd_is_letter ct_is_letter), sl_is_letter⟩)
    (e_is_letter : PySem.W.codeIn K cd_is_letter "is_letter" = true)
    (k_is_letter : PySem.W.keepIn K (.ref f_is_letter) = true)
    (a_route : PySem.W.nsIn K mainGlobals "route" = some (some (.ref f_route)))
    (l_route : K.lookup f_route = some ⟨oc_route, od_route, .func (PySem.W.fnOf "route" "route" (defArgs s_route) (defBody s_route) (defScope s_route) .none kV_route dc_route pm_route an_route cd_route ct_route), sl_route⟩)
    (e_route : PySem.W.codeIn K cd_route "route" = true)
    (k_route : PySem.W.keepIn K (.ref f_route) = true)
    (a_check_letter : PySem.W.nsIn K mainGlobals "check_letter" = some (some (.ref f_check_letter)))
    (l_check_letter : K.lookup f_check_letter = some ⟨oc_check_letter, od_check_letter, .func (PySem.W.fnOf "check_letter" "check_letter" (defArgs s_check_letter) (defBody s_check_letter) (defScope s_check_letter) .none kV_check_letter dc_check_letter pm_check_letter an_check_letter cd_check_letter ct_check_letter), sl_check_letter⟩)
    (e_check_letter : PySem.W.codeIn K cd_check_letter "check_letter" = true)
    (k_check_letter : PySem.W.keepIn K (.ref f_check_letter) = true)
    (a_pack : PySem.W.nsIn K mainGlobals "pack" = some (some (.ref f_pack)))
    (l_pack : K.lookup f_pack = some ⟨oc_pack, od_pack, .func (PySem.W.fnOf "pack" "pack" (defArgs s_pack) (defBody s_pack) (defScope s_pack) .none kV_pack dc_pack pm_pack an_pack cd_pack ct_pack), sl_pack⟩)
    (e_pack : PySem.W.codeIn K cd_pack "pack" = true)
    (k_pack : PySem.W.keepIn K (.ref f_pack) = true)
    (a_unpack : PySem.W.nsIn K mainGlobals "unpack" = some (some (.ref f_unpack)))
    (l_unpack : K.lookup f_unpack = some ⟨oc_unpack, od_unpack, .func (PySem.W.fnOf "unpack" "unpack" (defArgs s_unpack) (defBody s_unpack) (defScope s_unpack) .none kV_unpack dc_unpack pm_unpack an_unpack cd_unpack ct_unpack), sl_unpack⟩)
    (e_unpack : PySem.W.codeIn K cd_unpack "unpack" = true)
    (k_unpack : PySem.W.keepIn K (.ref f_unpack) = true)
    (a__law_draws : PySem.W.nsIn K mainGlobals "_law_draws" = some (some (.ref f__law_draws)))
    (l__law_draws : K.lookup f__law_draws = some ⟨oc__law_draws, od__law_draws, .func (PySem.W.fnOf "_law_draws" "_law_draws" (defArgs s__law_draws) (defBody s__law_draws) (defScope s__law_draws) .none kV__law_draws dc__law_draws pm__law_draws an__law_draws cd__law_draws ct__law_draws), sl__law_draws⟩)
    (e__law_draws : PySem.W.codeIn K cd__law_draws "_law_draws" = true)
    (k__law_draws : PySem.W.keepIn K (.ref f__law_draws) = true)
    (a__law_next : PySem.W.nsIn K mainGlobals "_law_next" = some (some (.ref f__law_next)))
    (l__law_next : K.lookup f__law_next = some ⟨oc__law_next, od__law_next, .func (PySem.W.fnOf "_law_next" "_law_next" (defArgs s__law_next) (defBody s__law_next) (defScope s__law_next) .none kV__law_next dc__law_next pm__law_next an__law_next cd__law_next ct__law_next), sl__law_next⟩)
    (e__law_next : PySem.W.codeIn K cd__law_next "_law_next" = true)
    (k__law_next : PySem.W.keepIn K (.ref f__law_next) = true)
    (a__law_big : PySem.W.nsIn K mainGlobals "_law_big" = some (some (.ref f__law_big)))
    (l__law_big : K.lookup f__law_big = some ⟨oc__law_big, od__law_big, .func (PySem.W.fnOf "_law_big" "_law_big" (defArgs s__law_big) (defBody s__law_big) (defScope s__law_big) .none kV__law_big dc__law_big pm__law_big an__law_big cd__law_big ct__law_big), sl__law_big⟩)
    (e__law_big : PySem.W.codeIn K cd__law_big "_law_big" = true)
    (k__law_big : PySem.W.keepIn K (.ref f__law_big) = true)
    (a__law_char : PySem.W.nsIn K mainGlobals "_law_char" = some (some (.ref f__law_char)))
    (l__law_char : K.lookup f__law_char = some ⟨oc__law_char, od__law_char, .func (PySem.W.fnOf "_law_char" "_law_char" (defArgs s__law_char) (defBody s__law_char) (defScope s__law_char) .none kV__law_char dc__law_char pm__law_char an__law_char cd__law_char ct__law_char), sl__law_char⟩)
    (e__law_char : PySem.W.codeIn K cd__law_char "_law_char" = true)
    (k__law_char : PySem.W.keepIn K (.ref f__law_char) = true)
    (a__law_string : PySem.W.nsIn K mainGlobals "_law_string" = some (some (.ref f__law_string)))
    (l__law_string : K.lookup f__law_string = some ⟨oc__law_string, od__law_string, .func (PySem.W.fnOf "_law_string" "_law_string" (defArgs s__law_string) (defBody s__law_string) (defScope s__law_string) .none kV__law_string dc__law_string pm__law_string an__law_string cd__law_string ct__law_string), sl__law_string⟩)
    (e__law_string : PySem.W.codeIn K cd__law_string "_law_string" = true)
    (k__law_string : PySem.W.keepIn K (.ref f__law_string) = true)
    (a__law_command : PySem.W.nsIn K mainGlobals "_law_command" = some (some (.ref f__law_command)))
    (l__law_command : K.lookup f__law_command = some ⟨oc__law_command, od__law_command, .func (PySem.W.fnOf "_law_command" "_law_command" (defArgs s__law_command) (defBody s__law_command) (defScope s__law_command) .none kV__law_command dc__law_command pm__law_command an__law_command cd__law_command ct__law_command), sl__law_command⟩)
    (e__law_command : PySem.W.codeIn K cd__law_command "_law_command" = true)
    (k__law_command : PySem.W.keepIn K (.ref f__law_command) = true)
    (a__law_commands : PySem.W.nsIn K mainGlobals "_law_commands" = some (some (.ref f__law_commands)))
    (l__law_commands : K.lookup f__law_commands = some ⟨oc__law_commands, od__law_commands, .func (PySem.W.fnOf "_law_commands" "_law_commands" (defArgs s__law_commands) (defBody s__law_commands) (defScope s__law_commands) .none kV__law_commands dc__law_commands pm__law_commands an__law_commands cd__law_commands ct__law_commands), sl__law_commands⟩)
    (e__law_commands : PySem.W.codeIn K cd__law_commands "_law_commands" = true)
    (k__law_commands : PySem.W.keepIn K (.ref f__law_commands) = true)
    (a__law_block : PySem.W.nsIn K mainGlobals "_law_block" = some (some (.ref f__law_block)))
    (l__law_block : K.lookup f__law_block = some ⟨oc__law_block, od__law_block, .func (PySem.W.fnOf "_law_block" "_law_block" (defArgs s__law_block) (defBody s__law_block) (defScope s__law_block) .none kV__law_block dc__law_block pm__law_block an__law_block cd__law_block ct__law_block), sl__law_block⟩)
    (e__law_block : PySem.W.codeIn K cd__law_block "_law_block" = true)
    (k__law_block : PySem.W.keepIn K (.ref f__law_block) = true)
    (a__law_letter : PySem.W.nsIn K mainGlobals "_law_letter" = some (some (.ref f__law_letter)))
    (l__law_letter : K.lookup f__law_letter = some ⟨oc__law_letter, od__law_letter, .func (PySem.W.fnOf "_law_letter" "_law_letter" (defArgs s__law_letter) (defBody s__law_letter) (defScope s__law_letter) .none kV__law_letter dc__law_letter pm__law_letter an__law_letter cd__law_letter ct__law_letter), sl__law_letter⟩)
    (e__law_letter : PySem.W.codeIn K cd__law_letter "_law_letter" = true)
    (k__law_letter : PySem.W.keepIn K (.ref f__law_letter) = true)
    (a__law_kind : PySem.W.nsIn K mainGlobals "_law_kind" = some (some (.ref f__law_kind)))
    (l__law_kind : K.lookup f__law_kind = some ⟨oc__law_kind, od__law_kind, .func (PySem.W.fnOf "_law_kind" "_law_kind" (defArgs s__law_kind) (defBody s__law_kind) (defScope s__law_kind) .none kV__law_kind dc__law_kind pm__law_kind an__law_kind cd__law_kind ct__law_kind), sl__law_kind⟩)
    (e__law_kind : PySem.W.codeIn K cd__law_kind "_law_kind" = true)
    (k__law_kind : PySem.W.keepIn K (.ref f__law_kind) = true)
    (a__law_same : PySem.W.nsIn K mainGlobals "_law_same" = some (some (.ref f__law_same)))
    (l__law_same : K.lookup f__law_same = some ⟨oc__law_same, od__law_same, .func (PySem.W.fnOf "_law_same" "_law_same" (defArgs s__law_same) (defBody s__law_same) (defScope s__law_same) .none kV__law_same dc__law_same pm__law_same an__law_same cd__law_same ct__law_same), sl__law_same⟩)
    (e__law_same : PySem.W.codeIn K cd__law_same "_law_same" = true)
    (k__law_same : PySem.W.keepIn K (.ref f__law_same) = true)
    (a__law_text : PySem.W.nsIn K mainGlobals "_law_text" = some (some (.ref f__law_text)))
    (l__law_text : K.lookup f__law_text = some ⟨oc__law_text, od__law_text, .func (PySem.W.fnOf "_law_text" "_law_text" (defArgs s__law_text) (defBody s__law_text) (defScope s__law_text) .none kV__law_text dc__law_text pm__law_text an__law_text cd__law_text ct__law_text), sl__law_text⟩)
    (e__law_text : PySem.W.codeIn K cd__law_text "_law_text" = true)
    (k__law_text : PySem.W.keepIn K (.ref f__law_text) = true)
    (a__law_unpacked : PySem.W.nsIn K mainGlobals "_law_unpacked" = some (some (.ref f__law_unpacked)))
    (l__law_unpacked : K.lookup f__law_unpacked = some ⟨oc__law_unpacked, od__law_unpacked, .func (PySem.W.fnOf "_law_unpacked" "_law_unpacked" (defArgs s__law_unpacked) (defBody s__law_unpacked) (defScope s__law_unpacked) .none kV__law_unpacked dc__law_unpacked pm__law_unpacked an__law_unpacked cd__law_unpacked ct__law_unpacked), sl__law_unpacked⟩)
    (e__law_unpacked : PySem.W.codeIn K cd__law_unpacked "_law_unpacked" = true)
    (k__law_unpacked : PySem.W.keepIn K (.ref f__law_unpacked) = true)
    (a__law_ends : PySem.W.nsIn K mainGlobals "_law_ends" = some (some (.ref f__law_ends)))
    (l__law_ends : K.lookup f__law_ends = some ⟨oc__law_ends, od__law_ends, .func (PySem.W.fnOf "_law_ends" "_law_ends" (defArgs s__law_ends) (defBody s__law_ends) (defScope s__law_ends) .none kV__law_ends dc__law_ends pm__law_ends an__law_ends cd__law_ends ct__law_ends), sl__law_ends⟩)
    (e__law_ends : PySem.W.codeIn K cd__law_ends "_law_ends" = true)
    (k__law_ends : PySem.W.keepIn K (.ref f__law_ends) = true)
    (a_law : PySem.W.nsIn K mainGlobals "law" = some (some (.ref f_law)))
    (l_law : K.lookup f_law = some ⟨oc_law, od_law, .func (PySem.W.fnOf "law" "law" (defArgs s_law) (defBody s_law) (defScope s_law) .none kV_law dc_law pm_law an_law cd_law ct_law), sl_law⟩)
    (e_law : PySem.W.codeIn K cd_law "law" = true)
    (k_law : PySem.W.keepIn K (.ref f_law) = true)
    (ac_Group : PySem.W.nsIn K mainGlobals "Group" = some (some (.ref C_Group)))
    (pg_Group : PySem.W.plainGet K C_Group Str.empty = true)
    (hd_Group : PySem.W.hasDictIn K C_Group = true)
    (po_Group : PySem.W.plainOver K C_Group = true)
    (sa_Group : PySem.W.findIn K (.ref C_Group) "__setattr__" = some (some (.builtin "object.__setattr__")))
    (mk_Group : PySem.W.makesIn K C_Group = true)
    (kc_Group : PySem.W.keepIn K (.ref C_Group) = true)
    (na_Group_faults : PySem.W.findIn K (.ref C_Group) "faults" = some none)
    (na_Group_machines : PySem.W.findIn K (.ref C_Group) "machines" = some none)
    (na_Group_quorum : PySem.W.findIn K (.ref C_Group) "quorum" = some none)
    (na_Group_blocking : PySem.W.findIn K (.ref C_Group) "blocking" = some none)
    (a_Group____init__ : PySem.W.findIn K (.ref C_Group) "__init__" = some (some (.ref f_Group____init__)))
    (i_Group____init__ : PySem.W.isFn K (.ref f_Group____init__) = true)
    (l_Group____init__ : K.lookup f_Group____init__ = some ⟨oc_Group____init__, od_Group____init__, .func (PySem.W.fnOf "__init__" "Group.__init__" (defArgs s_Group____init__) (defBody s_Group____init__) (defScope s_Group____init__) .none kV_Group____init__ dc_Group____init__ pm_Group____init__ an_Group____init__ cd_Group____init__ ct_Group____init__), sl_Group____init__⟩)
    (e_Group____init__ : PySem.W.codeIn K cd_Group____init__ "Group.__init__" = true)
    (k_Group____init__ : PySem.W.keepIn K (.ref f_Group____init__) = true)
    (a_Group__is_member : PySem.W.findIn K (.ref C_Group) "is_member" = some (some (.ref f_Group__is_member)))
    (i_Group__is_member : PySem.W.isFn K (.ref f_Group__is_member) = true)
    (l_Group__is_member : K.lookup f_Group__is_member = some ⟨oc_Group__is_member, od_Group__is_member, .func (PySem.W.fnOf "is_member" "Group.is_member" (defArgs s_Group__is_member) (defBody s_Group__is_member) (defScope s_Group__is_member) .none kV_Group__is_member dc_Group__is_member pm_Group__is_member an_Group__is_member cd_Group__is_member ct_Group__is_member), sl_Group__is_member⟩)
    (e_Group__is_member : PySem.W.codeIn K cd_Group__is_member "Group.is_member" = true)
    (k_Group__is_member : PySem.W.keepIn K (.ref f_Group__is_member) = true)
    (xa_BadGroup : PySem.W.nsIn K mainGlobals "BadGroup" = some (some (.ref C_BadGroup)))
    (xe_BadGroup : PySem.W.excIn K C_BadGroup [.type "ValueError", .type "Exception", .type "BaseException", .type "object"] "ValueError.__new__" = true)
    (xk_BadGroup : PySem.W.keepIn K (.ref C_BadGroup) = true)
    (xb_BadGroup : PySem.W.subIn K (.ref C_BadGroup) (.type "BaseException") = some true)
    (xt_BadGroup : PySem.W.typeIn K (.ref C_BadGroup) = some (.type "type"))
    (xh_BadGroup : PySem.W.hasDictIn K C_BadGroup = true)
    (xa_BadLetter : PySem.W.nsIn K mainGlobals "BadLetter" = some (some (.ref C_BadLetter)))
    (xe_BadLetter : PySem.W.excIn K C_BadLetter [.type "ValueError", .type "Exception", .type "BaseException", .type "object"] "ValueError.__new__" = true)
    (xk_BadLetter : PySem.W.keepIn K (.ref C_BadLetter) = true)
    (xb_BadLetter : PySem.W.subIn K (.ref C_BadLetter) (.type "BaseException") = some true)
    (xt_BadLetter : PySem.W.typeIn K (.ref C_BadLetter) = some (.type "type"))
    (xh_BadLetter : PySem.W.hasDictIn K C_BadLetter = true)
    (xa_BadText : PySem.W.nsIn K mainGlobals "BadText" = some (some (.ref C_BadText)))
    (xe_BadText : PySem.W.excIn K C_BadText [.type "ValueError", .type "Exception", .type "BaseException", .type "object"] "ValueError.__new__" = true)
    (xk_BadText : PySem.W.keepIn K (.ref C_BadText) = true)
    (xb_BadText : PySem.W.subIn K (.ref C_BadText) (.type "BaseException") = some true)
    (xt_BadText : PySem.W.typeIn K (.ref C_BadText) = some (.type "type"))
    (xh_BadText : PySem.W.hasDictIn K C_BadText = true)
    (a_FORMS : PySem.W.nsIn K mainGlobals "FORMS" = some (some (.ref C_FORMS)))
    (l_FORMS : K.lookup C_FORMS = some ⟨.type "dict", none, .dict es_FORMS n_FORMS, #[]⟩)
    (kl_FORMS : PySem.W.KeysLit w.params es_FORMS.toList)
    (lo_FORMS : (C_FORMS == sysModules) = false)
    (vf_FORMS_vouch : PySem.W.nsIn K C_FORMS "vouch" = some (some (.ref f_holds_vouch)))
    (vf_FORMS_propose : PySem.W.nsIn K C_FORMS "propose" = some (some (.ref f_holds_block)))
    (vf_FORMS_vote : PySem.W.nsIn K C_FORMS "vote" = some (some (.ref f_holds_block)))
    (vf_FORMS_ready : PySem.W.nsIn K C_FORMS "ready" = some (some (.ref f_holds_block)))
    (vf_FORMS_claim : PySem.W.nsIn K C_FORMS "claim" = some (some (.ref f_holds_claim)))
    (vf_FORMS_give : PySem.W.nsIn K C_FORMS "give" = some (some (.ref f_holds_give)))
    (vf_FORMS_command : PySem.W.nsIn K C_FORMS "command" = some (some (.ref f_holds_request)))
    (vf_FORMS_answer : PySem.W.nsIn K C_FORMS "answer" = some (some (.ref f_holds_answer)))
    (m_FORMS_0 : PySem.W.nsIn K C_FORMS "" = some none)
    (a_CONSTANTS : PySem.W.nsIn K mainGlobals "CONSTANTS" = some (some (.ref C_CONSTANTS)))
    (l_CONSTANTS : K.lookup C_CONSTANTS = some ⟨.type "dict", none, .dict es_CONSTANTS n_CONSTANTS, #[]⟩)
    (kl_CONSTANTS : PySem.W.KeysLit w.params es_CONSTANTS.toList)
    (lo_CONSTANTS : (C_CONSTANTS == sysModules) = false)
    (vc_CONSTANTS_0 : PySem.W.nsIn K C_CONSTANTS "n" = some (some .none))
    (vc_CONSTANTS_1 : PySem.W.nsIn K C_CONSTANTS "y" = some (some (.bool true)))
    (vc_CONSTANTS_2 : PySem.W.nsIn K C_CONSTANTS "z" = some (some (.bool false)))
    (m_CONSTANTS_0 : PySem.W.nsIn K C_CONSTANTS " " = some none)
    (m_CONSTANTS_1 : PySem.W.nsIn K C_CONSTANTS "!" = some none)
    (m_CONSTANTS_2 : PySem.W.nsIn K C_CONSTANTS "\"" = some none)
    (m_CONSTANTS_3 : PySem.W.nsIn K C_CONSTANTS "#" = some none)
    (m_CONSTANTS_4 : PySem.W.nsIn K C_CONSTANTS "$" = some none)
    (m_CONSTANTS_5 : PySem.W.nsIn K C_CONSTANTS "&" = some none)
    (m_CONSTANTS_6 : PySem.W.nsIn K C_CONSTANTS "'" = some none)
    (m_CONSTANTS_7 : PySem.W.nsIn K C_CONSTANTS "(" = some none)
    (m_CONSTANTS_8 : PySem.W.nsIn K C_CONSTANTS ")" = some none)
    (m_CONSTANTS_9 : PySem.W.nsIn K C_CONSTANTS "*" = some none)
    (m_CONSTANTS_10 : PySem.W.nsIn K C_CONSTANTS "+" = some none)
    (m_CONSTANTS_11 : PySem.W.nsIn K C_CONSTANTS "," = some none)
    (m_CONSTANTS_12 : PySem.W.nsIn K C_CONSTANTS "-" = some none)
    (m_CONSTANTS_13 : PySem.W.nsIn K C_CONSTANTS "." = some none)
    (m_CONSTANTS_14 : PySem.W.nsIn K C_CONSTANTS "/" = some none)
    (m_CONSTANTS_15 : PySem.W.nsIn K C_CONSTANTS "0" = some none)
    (m_CONSTANTS_16 : PySem.W.nsIn K C_CONSTANTS "1" = some none)
    (m_CONSTANTS_17 : PySem.W.nsIn K C_CONSTANTS "2" = some none)
    (m_CONSTANTS_18 : PySem.W.nsIn K C_CONSTANTS "3" = some none)
    (m_CONSTANTS_19 : PySem.W.nsIn K C_CONSTANTS "4" = some none)
    (m_CONSTANTS_20 : PySem.W.nsIn K C_CONSTANTS "5" = some none)
    (m_CONSTANTS_21 : PySem.W.nsIn K C_CONSTANTS "6" = some none)
    (m_CONSTANTS_22 : PySem.W.nsIn K C_CONSTANTS "7" = some none)
    (m_CONSTANTS_23 : PySem.W.nsIn K C_CONSTANTS "8" = some none)
    (m_CONSTANTS_24 : PySem.W.nsIn K C_CONSTANTS "9" = some none)
    (m_CONSTANTS_25 : PySem.W.nsIn K C_CONSTANTS ":" = some none)
    (m_CONSTANTS_26 : PySem.W.nsIn K C_CONSTANTS ";" = some none)
    (m_CONSTANTS_27 : PySem.W.nsIn K C_CONSTANTS "<" = some none)
    (m_CONSTANTS_28 : PySem.W.nsIn K C_CONSTANTS "=" = some none)
    (m_CONSTANTS_29 : PySem.W.nsIn K C_CONSTANTS ">" = some none)
    (m_CONSTANTS_30 : PySem.W.nsIn K C_CONSTANTS "?" = some none)
    (m_CONSTANTS_31 : PySem.W.nsIn K C_CONSTANTS "@" = some none)
    (m_CONSTANTS_32 : PySem.W.nsIn K C_CONSTANTS "A" = some none)
    (m_CONSTANTS_33 : PySem.W.nsIn K C_CONSTANTS "B" = some none)
    (m_CONSTANTS_34 : PySem.W.nsIn K C_CONSTANTS "C" = some none)
    (m_CONSTANTS_35 : PySem.W.nsIn K C_CONSTANTS "D" = some none)
    (m_CONSTANTS_36 : PySem.W.nsIn K C_CONSTANTS "E" = some none)
    (m_CONSTANTS_37 : PySem.W.nsIn K C_CONSTANTS "F" = some none)
    (m_CONSTANTS_38 : PySem.W.nsIn K C_CONSTANTS "G" = some none)
    (m_CONSTANTS_39 : PySem.W.nsIn K C_CONSTANTS "H" = some none)
    (m_CONSTANTS_40 : PySem.W.nsIn K C_CONSTANTS "I" = some none)
    (m_CONSTANTS_41 : PySem.W.nsIn K C_CONSTANTS "J" = some none)
    (m_CONSTANTS_42 : PySem.W.nsIn K C_CONSTANTS "K" = some none)
    (m_CONSTANTS_43 : PySem.W.nsIn K C_CONSTANTS "L" = some none)
    (m_CONSTANTS_44 : PySem.W.nsIn K C_CONSTANTS "M" = some none)
    (m_CONSTANTS_45 : PySem.W.nsIn K C_CONSTANTS "N" = some none)
    (m_CONSTANTS_46 : PySem.W.nsIn K C_CONSTANTS "O" = some none)
    (m_CONSTANTS_47 : PySem.W.nsIn K C_CONSTANTS "P" = some none)
    (m_CONSTANTS_48 : PySem.W.nsIn K C_CONSTANTS "Q" = some none)
    (m_CONSTANTS_49 : PySem.W.nsIn K C_CONSTANTS "R" = some none)
    (m_CONSTANTS_50 : PySem.W.nsIn K C_CONSTANTS "S" = some none)
    (m_CONSTANTS_51 : PySem.W.nsIn K C_CONSTANTS "T" = some none)
    (m_CONSTANTS_52 : PySem.W.nsIn K C_CONSTANTS "U" = some none)
    (m_CONSTANTS_53 : PySem.W.nsIn K C_CONSTANTS "V" = some none)
    (m_CONSTANTS_54 : PySem.W.nsIn K C_CONSTANTS "W" = some none)
    (m_CONSTANTS_55 : PySem.W.nsIn K C_CONSTANTS "X" = some none)
    (m_CONSTANTS_56 : PySem.W.nsIn K C_CONSTANTS "Y" = some none)
    (m_CONSTANTS_57 : PySem.W.nsIn K C_CONSTANTS "Z" = some none)
    (m_CONSTANTS_58 : PySem.W.nsIn K C_CONSTANTS "[" = some none)
    (m_CONSTANTS_59 : PySem.W.nsIn K C_CONSTANTS "\\" = some none)
    (m_CONSTANTS_60 : PySem.W.nsIn K C_CONSTANTS "]" = some none)
    (m_CONSTANTS_61 : PySem.W.nsIn K C_CONSTANTS "^" = some none)
    (m_CONSTANTS_62 : PySem.W.nsIn K C_CONSTANTS "_" = some none)
    (m_CONSTANTS_63 : PySem.W.nsIn K C_CONSTANTS "`" = some none)
    (m_CONSTANTS_64 : PySem.W.nsIn K C_CONSTANTS "a" = some none)
    (m_CONSTANTS_65 : PySem.W.nsIn K C_CONSTANTS "b" = some none)
    (m_CONSTANTS_66 : PySem.W.nsIn K C_CONSTANTS "c" = some none)
    (m_CONSTANTS_67 : PySem.W.nsIn K C_CONSTANTS "d" = some none)
    (m_CONSTANTS_68 : PySem.W.nsIn K C_CONSTANTS "e" = some none)
    (m_CONSTANTS_69 : PySem.W.nsIn K C_CONSTANTS "f" = some none)
    (m_CONSTANTS_70 : PySem.W.nsIn K C_CONSTANTS "g" = some none)
    (m_CONSTANTS_71 : PySem.W.nsIn K C_CONSTANTS "h" = some none)
    (m_CONSTANTS_72 : PySem.W.nsIn K C_CONSTANTS "i" = some none)
    (m_CONSTANTS_73 : PySem.W.nsIn K C_CONSTANTS "j" = some none)
    (m_CONSTANTS_74 : PySem.W.nsIn K C_CONSTANTS "k" = some none)
    (m_CONSTANTS_75 : PySem.W.nsIn K C_CONSTANTS "l" = some none)
    (m_CONSTANTS_76 : PySem.W.nsIn K C_CONSTANTS "m" = some none)
    (m_CONSTANTS_77 : PySem.W.nsIn K C_CONSTANTS "o" = some none)
    (m_CONSTANTS_78 : PySem.W.nsIn K C_CONSTANTS "p" = some none)
    (m_CONSTANTS_79 : PySem.W.nsIn K C_CONSTANTS "q" = some none)
    (m_CONSTANTS_80 : PySem.W.nsIn K C_CONSTANTS "r" = some none)
    (m_CONSTANTS_81 : PySem.W.nsIn K C_CONSTANTS "s" = some none)
    (m_CONSTANTS_82 : PySem.W.nsIn K C_CONSTANTS "t" = some none)
    (m_CONSTANTS_83 : PySem.W.nsIn K C_CONSTANTS "u" = some none)
    (m_CONSTANTS_84 : PySem.W.nsIn K C_CONSTANTS "v" = some none)
    (m_CONSTANTS_85 : PySem.W.nsIn K C_CONSTANTS "w" = some none)
    (m_CONSTANTS_86 : PySem.W.nsIn K C_CONSTANTS "x" = some none)
    (m_CONSTANTS_87 : PySem.W.nsIn K C_CONSTANTS "{" = some none)
    (m_CONSTANTS_88 : PySem.W.nsIn K C_CONSTANTS "|" = some none)
    (m_CONSTANTS_89 : PySem.W.nsIn K C_CONSTANTS "}" = some none)
    (m_CONSTANTS_90 : PySem.W.nsIn K C_CONSTANTS "~" = some none)
    (u_BadGroup_BadGroup : PySem.W.subIn K (.ref C_BadGroup) (.ref C_BadGroup) = some true)
    (u_BadLetter_BadLetter : PySem.W.subIn K (.ref C_BadLetter) (.ref C_BadLetter) = some true)
    (u_BadText_BadText : PySem.W.subIn K (.ref C_BadText) (.ref C_BadText) = some true)
    (u_BadLetter_BadText : PySem.W.subIn K (.ref C_BadLetter) (.ref C_BadText) = some false)
    (u_BadText_BadLetter : PySem.W.subIn K (.ref C_BadText) (.ref C_BadLetter) = some false)
    (a_MOST_ANSWER : PySem.W.nsIn K mainGlobals "MOST_ANSWER" = some (some (.int 200 t_MOST_ANSWER)))
    (a_MOST_CLIENTS : PySem.W.nsIn K mainGlobals "MOST_CLIENTS" = some (some (.int 100 t_MOST_CLIENTS)))
    (a_MOST_DEPTH : PySem.W.nsIn K mainGlobals "MOST_DEPTH" = some (some (.int 12 t_MOST_DEPTH)))
    (a_MOST_DIGITS : PySem.W.nsIn K mainGlobals "MOST_DIGITS" = some (some (.int 60 t_MOST_DIGITS)))
    (a_MOST_FAULTS : PySem.W.nsIn K mainGlobals "MOST_FAULTS" = some (some (.int 10 t_MOST_FAULTS)))
    (a_MOST_LENGTH : PySem.W.nsIn K mainGlobals "MOST_LENGTH" = some (some (.int 100000 t_MOST_LENGTH)))
    (a_MOST_NUMBER : PySem.W.nsIn K mainGlobals "MOST_NUMBER" = some (some (.int 1000000000000 t_MOST_NUMBER)))
    (a_MOST_TEXT : PySem.W.nsIn K mainGlobals "MOST_TEXT" = some (some (.int 240 t_MOST_TEXT)))
    (z_abs : PySem.W.nsIn K mainGlobals "abs" = some none)
    (z_bool : PySem.W.nsIn K mainGlobals "bool" = some none)
    (z_int : PySem.W.nsIn K mainGlobals "int" = some none)
    (z_isinstance : PySem.W.nsIn K mainGlobals "isinstance" = some none)
    (z_len : PySem.W.nsIn K mainGlobals "len" = some none)
    (z_min : PySem.W.nsIn K mainGlobals "min" = some none)
    (z_range : PySem.W.nsIn K mainGlobals "range" = some none)
    (z_str : PySem.W.nsIn K mainGlobals "str" = some none)
    (z_tuple : PySem.W.nsIn K mainGlobals "tuple" = some none) : Txt K mg w C_Group C_BadGroup C_BadLetter C_BadText C_FORMS C_CONSTANTS :=
  { d_is_integer := ⟨_, _, (fun_mk l_is_integer e_is_integer k_is_integer), PySem.W.mg_of X G a_is_integer, ((fun_mk (st := s_is_integer) l_is_integer e_is_integer k_is_integer).binds (ps := ["value", "least", "greatest"]) fun _ _ _ _ _ _ us hl => match us, hl with | [_, _, _], _ => rfl)⟩,
    d_is_printable := ⟨_, _, (fun_mk l_is_printable e_is_printable k_is_printable), PySem.W.mg_of X G a_is_printable, ((fun_mk (st := s_is_printable) l_is_printable e_is_printable k_is_printable).binds (ps := ["value"]) fun _ _ _ _ _ _ us hl => match us, hl with | [_], _ => rfl)⟩,
    d_is_short := ⟨_, _, (fun_mk l_is_short e_is_short k_is_short), PySem.W.mg_of X G a_is_short, ((fun_mk (st := s_is_short) l_is_short e_is_short k_is_short).binds (ps := ["value", "most"]) fun _ _ _ _ _ _ us hl => match us, hl with | [_, _], _ => rfl)⟩,
    d_is_decimal := ⟨_, _, (fun_mk l_is_decimal e_is_decimal k_is_decimal), PySem.W.mg_of X G a_is_decimal, ((fun_mk (st := s_is_decimal) l_is_decimal e_is_decimal k_is_decimal).binds (ps := ["word"]) fun _ _ _ _ _ _ us hl => match us, hl with | [_], _ => rfl)⟩,
    d_encode := ⟨_, _, (fun_mk l_encode e_encode k_encode), PySem.W.mg_of X G a_encode, ((fun_mk (st := s_encode) l_encode e_encode k_encode).binds (ps := ["value"]) fun _ _ _ _ _ _ us hl => match us, hl with | [_], _ => rfl)⟩,
    d_text_of := ⟨_, _, (fun_mk l_text_of e_text_of k_text_of), PySem.W.mg_of X G a_text_of, ((fun_mk (st := s_text_of) l_text_of e_text_of k_text_of).binds (ps := ["value", "depth", "room"]) fun _ _ _ _ _ _ us hl => match us, hl with | [_, _, _], _ => rfl)⟩,
    d_tuple_text := ⟨_, _, (fun_mk l_tuple_text e_tuple_text k_tuple_text), PySem.W.mg_of X G a_tuple_text, ((fun_mk (st := s_tuple_text) l_tuple_text e_tuple_text k_tuple_text).binds (ps := ["value", "depth", "room"]) fun _ _ _ _ _ _ us hl => match us, hl with | [_, _, _], _ => rfl)⟩,
    d_single_text := ⟨_, _, (fun_mk l_single_text e_single_text k_single_text), PySem.W.mg_of X G a_single_text, ((fun_mk (st := s_single_text) l_single_text e_single_text k_single_text).binds (ps := ["value"]) fun _ _ _ _ _ _ us hl => match us, hl with | [_], _ => rfl)⟩,
    d_has_few_digits := ⟨_, _, (fun_mk l_has_few_digits e_has_few_digits k_has_few_digits), PySem.W.mg_of X G a_has_few_digits, ((fun_mk (st := s_has_few_digits) l_has_few_digits e_has_few_digits k_has_few_digits).binds (ps := ["value"]) fun _ _ _ _ _ _ us hl => match us, hl with | [_], _ => rfl)⟩,
    d_decode := ⟨_, _, (fun_mk l_decode e_decode k_decode), PySem.W.mg_of X G a_decode, ((fun_mk (st := s_decode) l_decode e_decode k_decode).binds (ps := ["text"]) fun _ _ _ _ _ _ us hl => match us, hl with | [_], _ => rfl)⟩,
    d_read_value := ⟨_, _, (fun_mk l_read_value e_read_value k_read_value), PySem.W.mg_of X G a_read_value, ((fun_mk (st := s_read_value) l_read_value e_read_value k_read_value).binds (ps := ["text", "start"]) fun _ _ _ _ _ _ us hl => match us, hl with | [_, _], _ => rfl)⟩,
    d_value_at := ⟨_, _, (fun_mk l_value_at e_value_at k_value_at), PySem.W.mg_of X G a_value_at, ((fun_mk (st := s_value_at) l_value_at e_value_at k_value_at).binds (ps := ["text", "start", "end", "depth"]) fun _ _ _ _ _ _ us hl => match us, hl with | [_, _, _, _], _ => rfl)⟩,
    d_number_at := ⟨_, _, (fun_mk l_number_at e_number_at k_number_at), PySem.W.mg_of X G a_number_at, ((fun_mk (st := s_number_at) l_number_at e_number_at k_number_at).binds (ps := ["text", "start", "end", "mark"]) fun _ _ _ _ _ _ us hl => match us, hl with | [_, _, _, _], _ => rfl)⟩,
    d_integer_at := ⟨_, _, (fun_mk l_integer_at e_integer_at k_integer_at), PySem.W.mg_of X G a_integer_at, ((fun_mk (st := s_integer_at) l_integer_at e_integer_at k_integer_at).binds (ps := ["text", "start", "end"]) fun _ _ _ _ _ _ us hl => match us, hl with | [_, _, _], _ => rfl)⟩,
    d_string_at := ⟨_, _, (fun_mk l_string_at e_string_at k_string_at), PySem.W.mg_of X G a_string_at, ((fun_mk (st := s_string_at) l_string_at e_string_at k_string_at).binds (ps := ["text", "start", "end"]) fun _ _ _ _ _ _ us hl => match us, hl with | [_, _, _], _ => rfl)⟩,
    d_tuple_at := ⟨_, _, (fun_mk l_tuple_at e_tuple_at k_tuple_at), PySem.W.mg_of X G a_tuple_at, ((fun_mk (st := s_tuple_at) l_tuple_at e_tuple_at k_tuple_at).binds (ps := ["text", "start", "end", "depth"]) fun _ _ _ _ _ _ us hl => match us, hl with | [_, _, _, _], _ => rfl)⟩,
    d_is_client := ⟨_, _, (fun_mk l_is_client e_is_client k_is_client), PySem.W.mg_of X G a_is_client, ((fun_mk (st := s_is_client) l_is_client e_is_client k_is_client).binds (ps := ["value"]) fun _ _ _ _ _ _ us hl => match us, hl with | [_], _ => rfl)⟩,
    d_is_number := ⟨_, _, (fun_mk l_is_number e_is_number k_is_number), PySem.W.mg_of X G a_is_number, ((fun_mk (st := s_is_number) l_is_number e_is_number k_is_number).binds (ps := ["value"]) fun _ _ _ _ _ _ us hl => match us, hl with | [_], _ => rfl)⟩,
    d_is_command := ⟨_, _, (fun_mk l_is_command e_is_command k_is_command), PySem.W.mg_of X G a_is_command, ((fun_mk (st := s_is_command) l_is_command e_is_command k_is_command).binds (ps := ["value"]) fun _ _ _ _ _ _ us hl => match us, hl with | [_], _ => rfl)⟩,
    d_is_command_list := ⟨_, _, (fun_mk l_is_command_list e_is_command_list k_is_command_list), PySem.W.mg_of X G a_is_command_list, ((fun_mk (st := s_is_command_list) l_is_command_list e_is_command_list k_is_command_list).binds (ps := ["value"]) fun _ _ _ _ _ _ us hl => match us, hl with | [_], _ => rfl)⟩,
    d_is_block := ⟨_, _, (fun_mk l_is_block e_is_block k_is_block), PySem.W.mg_of X G a_is_block, ((fun_mk (st := s_is_block) l_is_block e_is_block k_is_block).binds (ps := ["value"]) fun _ _ _ _ _ _ us hl => match us, hl with | [_], _ => rfl)⟩,
    d_is_height_above := ⟨_, _, (fun_mk l_is_height_above e_is_height_above k_is_height_above), PySem.W.mg_of X G a_is_height_above, ((fun_mk (st := s_is_height_above) l_is_height_above e_is_height_above k_is_height_above).binds (ps := ["parent", "height"]) fun _ _ _ _ _ _ us hl => match us, hl with | [_, _], _ => rfl)⟩,
    d_holds_vouch := ⟨_, _, (fun_mk l_holds_vouch e_holds_vouch k_holds_vouch), PySem.W.mg_of X G a_holds_vouch, ((fun_mk (st := s_holds_vouch) l_holds_vouch e_holds_vouch k_holds_vouch).binds (ps := ["parts"]) fun _ _ _ _ _ _ us hl => match us, hl with | [_], _ => rfl)⟩,
    d_holds_block := ⟨_, _, (fun_mk l_holds_block e_holds_block k_holds_block), PySem.W.mg_of X G a_holds_block, ((fun_mk (st := s_holds_block) l_holds_block e_holds_block k_holds_block).binds (ps := ["parts"]) fun _ _ _ _ _ _ us hl => match us, hl with | [_], _ => rfl)⟩,
    d_holds_claim := ⟨_, _, (fun_mk l_holds_claim e_holds_claim k_holds_claim), PySem.W.mg_of X G a_holds_claim, ((fun_mk (st := s_holds_claim) l_holds_claim e_holds_claim k_holds_claim).binds (ps := ["parts"]) fun _ _ _ _ _ _ us hl => match us, hl with | [_], _ => rfl)⟩,
    d_holds_give := ⟨_, _, (fun_mk l_holds_give e_holds_give k_holds_give), PySem.W.mg_of X G a_holds_give, ((fun_mk (st := s_holds_give) l_holds_give e_holds_give k_holds_give).binds (ps := ["parts"]) fun _ _ _ _ _ _ us hl => match us, hl with | [_], _ => rfl)⟩,
    d_holds_request := ⟨_, _, (fun_mk l_holds_request e_holds_request k_holds_request), PySem.W.mg_of X G a_holds_request, ((fun_mk (st := s_holds_request) l_holds_request e_holds_request k_holds_request).binds (ps := ["parts"]) fun _ _ _ _ _ _ us hl => match us, hl with | [_], _ => rfl)⟩,
    d_holds_answer := ⟨_, _, (fun_mk l_holds_answer e_holds_answer k_holds_answer), PySem.W.mg_of X G a_holds_answer, ((fun_mk (st := s_holds_answer) l_holds_answer e_holds_answer k_holds_answer).binds (ps := ["parts"]) fun _ _ _ _ _ _ us hl => match us, hl with | [_], _ => rfl)⟩,
    d_is_letter := ⟨_, _, (fun_mk l_is_letter e_is_letter k_is_letter), PySem.W.mg_of X G a_is_letter, ((fun_mk (st := s_is_letter) l_is_letter e_is_letter k_is_letter).binds (ps := ["value"]) fun _ _ _ _ _ _ us hl => match us, hl with | [_], _ => rfl)⟩,
    d_route := ⟨_, _, (fun_mk l_route e_route k_route), PySem.W.mg_of X G a_route, ((fun_mk (st := s_route) l_route e_route k_route).binds (ps := ["letter"]) fun _ _ _ _ _ _ us hl => match us, hl with | [_], _ => rfl)⟩,
    d_check_letter := ⟨_, _, (fun_mk l_check_letter e_check_letter k_check_letter), PySem.W.mg_of X G a_check_letter, ((fun_mk (st := s_check_letter) l_check_letter e_check_letter k_check_letter).binds (ps := ["group", "sender", "receiver", "letter"]) fun _ _ _ _ _ _ us hl => match us, hl with | [_, _, _, _], _ => rfl)⟩,
    d_pack := ⟨_, _, (fun_mk l_pack e_pack k_pack), PySem.W.mg_of X G a_pack, ((fun_mk (st := s_pack) l_pack e_pack k_pack).binds (ps := ["sender", "receiver", "letter"]) fun _ _ _ _ _ _ us hl => match us, hl with | [_, _, _], _ => rfl)⟩,
    d_unpack := ⟨_, _, (fun_mk l_unpack e_unpack k_unpack), PySem.W.mg_of X G a_unpack, ((fun_mk (st := s_unpack) l_unpack e_unpack k_unpack).binds (ps := ["group", "text"]) fun _ _ _ _ _ _ us hl => match us, hl with | [_, _], _ => rfl)⟩,
    d__law_draws := ⟨_, _, (fun_mk l__law_draws e__law_draws k__law_draws), PySem.W.mg_of X G a__law_draws, ((fun_mk (st := s__law_draws) l__law_draws e__law_draws k__law_draws).binds (ps := ["script"]) fun _ _ _ _ _ _ us hl => match us, hl with | [_], _ => rfl)⟩,
    d__law_next := ⟨_, _, (fun_mk l__law_next e__law_next k__law_next), PySem.W.mg_of X G a__law_next, ((fun_mk (st := s__law_next) l__law_next e__law_next k__law_next).binds (ps := ["draws", "at", "many"]) fun _ _ _ _ _ _ us hl => match us, hl with | [_, _, _], _ => rfl)⟩,
    d__law_big := ⟨_, _, (fun_mk l__law_big e__law_big k__law_big), PySem.W.mg_of X G a__law_big, ((fun_mk (st := s__law_big) l__law_big e__law_big k__law_big).binds (ps := ["draws", "at", "many"]) fun _ _ _ _ _ _ us hl => match us, hl with | [_, _, _], _ => rfl)⟩,
    d__law_char := ⟨_, _, (fun_mk l__law_char e__law_char k__law_char), PySem.W.mg_of X G a__law_char, ((fun_mk (st := s__law_char) l__law_char e__law_char k__law_char).binds (ps := ["number"]) fun _ _ _ _ _ _ us hl => match us, hl with | [_], _ => rfl)⟩,
    d__law_string := ⟨_, _, (fun_mk l__law_string e__law_string k__law_string), PySem.W.mg_of X G a__law_string, ((fun_mk (st := s__law_string) l__law_string e__law_string k__law_string).binds (ps := ["draws", "at", "most"]) fun _ _ _ _ _ _ us hl => match us, hl with | [_, _, _], _ => rfl)⟩,
    d__law_command := ⟨_, _, (fun_mk l__law_command e__law_command k__law_command), PySem.W.mg_of X G a__law_command, ((fun_mk (st := s__law_command) l__law_command e__law_command k__law_command).binds (ps := ["draws", "at", "client"]) fun _ _ _ _ _ _ us hl => match us, hl with | [_, _, _], _ => rfl)⟩,
    d__law_commands := ⟨_, _, (fun_mk l__law_commands e__law_commands k__law_commands), PySem.W.mg_of X G a__law_commands, ((fun_mk (st := s__law_commands) l__law_commands e__law_commands k__law_commands).binds (ps := ["draws", "at", "most"]) fun _ _ _ _ _ _ us hl => match us, hl with | [_, _, _], _ => rfl)⟩,
    d__law_block := ⟨_, _, (fun_mk l__law_block e__law_block k__law_block), PySem.W.mg_of X G a__law_block, ((fun_mk (st := s__law_block) l__law_block e__law_block k__law_block).binds (ps := ["draws", "at", "most"]) fun _ _ _ _ _ _ us hl => match us, hl with | [_, _, _], _ => rfl)⟩,
    d__law_letter := ⟨_, _, (fun_mk l__law_letter e__law_letter k__law_letter), PySem.W.mg_of X G a__law_letter, ((fun_mk (st := s__law_letter) l__law_letter e__law_letter k__law_letter).binds (ps := ["draws", "at"]) fun _ _ _ _ _ _ us hl => match us, hl with | [_, _], _ => rfl)⟩,
    d__law_kind := ⟨_, _, (fun_mk l__law_kind e__law_kind k__law_kind), PySem.W.mg_of X G a__law_kind, ((fun_mk (st := s__law_kind) l__law_kind e__law_kind k__law_kind).binds (ps := ["value"]) fun _ _ _ _ _ _ us hl => match us, hl with | [_], _ => rfl)⟩,
    d__law_same := ⟨_, _, (fun_mk l__law_same e__law_same k__law_same), PySem.W.mg_of X G a__law_same, ((fun_mk (st := s__law_same) l__law_same e__law_same k__law_same).binds (ps := ["actual", "expected"]) fun _ _ _ _ _ _ us hl => match us, hl with | [_, _], _ => rfl)⟩,
    d__law_text := ⟨_, _, (fun_mk l__law_text e__law_text k__law_text), PySem.W.mg_of X G a__law_text, ((fun_mk (st := s__law_text) l__law_text e__law_text k__law_text).binds (ps := ["value"]) fun _ _ _ _ _ _ us hl => match us, hl with | [_], _ => rfl)⟩,
    d__law_unpacked := ⟨_, _, (fun_mk l__law_unpacked e__law_unpacked k__law_unpacked), PySem.W.mg_of X G a__law_unpacked, ((fun_mk (st := s__law_unpacked) l__law_unpacked e__law_unpacked k__law_unpacked).binds (ps := ["group", "text"]) fun _ _ _ _ _ _ us hl => match us, hl with | [_, _], _ => rfl)⟩,
    d__law_ends := ⟨_, _, (fun_mk l__law_ends e__law_ends k__law_ends), PySem.W.mg_of X G a__law_ends, ((fun_mk (st := s__law_ends) l__law_ends e__law_ends k__law_ends).binds (ps := ["letter", "machines", "draws", "at"]) fun _ _ _ _ _ _ us hl => match us, hl with | [_, _, _, _], _ => rfl)⟩,
    d_law := ⟨_, _, (fun_mk l_law e_law k_law), PySem.W.mg_of X G a_law, ((fun_mk (st := s_law) l_law e_law k_law).binds (ps := ["script"]) fun _ _ _ _ _ _ us hl => match us, hl with | [_], _ => rfl)⟩,
    cl_Group := ⟨pg_Group, hd_Group, po_Group, sa_Group⟩,
    g_Group := PySem.W.mg_of X G ac_Group,
    na_Group_faults := na_Group_faults,
    na_Group_machines := na_Group_machines,
    na_Group_quorum := na_Group_quorum,
    na_Group_blocking := na_Group_blocking,
    mk_Group := ⟨_, _, ⟨mk_Group, a_Group____init__, i_Group____init__, kc_Group⟩, (fun_mk l_Group____init__ e_Group____init__ k_Group____init__), ((fun_mk (st := s_Group____init__) l_Group____init__ e_Group____init__ k_Group____init__).binds (ps := ["self", "faults"]) fun _ _ _ _ _ _ us hl => match us, hl with | [_, _], _ => rfl)⟩,
    me_Group__is_member := ⟨_, _, ⟨a_Group__is_member, i_Group__is_member, k_Group__is_member⟩, (fun_mk l_Group__is_member e_Group__is_member k_Group__is_member), ((fun_mk (st := s_Group__is_member) l_Group__is_member e_Group__is_member k_Group__is_member).binds (ps := ["self", "value"]) fun _ _ _ _ _ _ us hl => match us, hl with | [_, _], _ => rfl)⟩,
    x_BadGroup := ⟨xe_BadGroup, PySem.W.mg_of X G xa_BadGroup, xk_BadGroup, xb_BadGroup, xt_BadGroup, xh_BadGroup⟩,
    x_BadLetter := ⟨xe_BadLetter, PySem.W.mg_of X G xa_BadLetter, xk_BadLetter, xb_BadLetter, xt_BadLetter, xh_BadLetter⟩,
    x_BadText := ⟨xe_BadText, PySem.W.mg_of X G xa_BadText, xk_BadText, xb_BadText, xt_BadText, xh_BadText⟩,
    g_FORMS := PySem.W.mg_of X G a_FORMS,
    kd_FORMS := ⟨_, _, ⟨l_FORMS, kl_FORMS, lo_FORMS⟩⟩,
    kf_FORMS_vouch := ⟨_, PySem.W.mg_of X G a_holds_vouch, ⟨_, _, _, l_FORMS, kl_FORMS, vf_FORMS_vouch, rfl⟩⟩,
    kf_FORMS_propose := ⟨_, PySem.W.mg_of X G a_holds_block, ⟨_, _, _, l_FORMS, kl_FORMS, vf_FORMS_propose, rfl⟩⟩,
    kf_FORMS_vote := ⟨_, PySem.W.mg_of X G a_holds_block, ⟨_, _, _, l_FORMS, kl_FORMS, vf_FORMS_vote, rfl⟩⟩,
    kf_FORMS_ready := ⟨_, PySem.W.mg_of X G a_holds_block, ⟨_, _, _, l_FORMS, kl_FORMS, vf_FORMS_ready, rfl⟩⟩,
    kf_FORMS_claim := ⟨_, PySem.W.mg_of X G a_holds_claim, ⟨_, _, _, l_FORMS, kl_FORMS, vf_FORMS_claim, rfl⟩⟩,
    kf_FORMS_give := ⟨_, PySem.W.mg_of X G a_holds_give, ⟨_, _, _, l_FORMS, kl_FORMS, vf_FORMS_give, rfl⟩⟩,
    kf_FORMS_command := ⟨_, PySem.W.mg_of X G a_holds_request, ⟨_, _, _, l_FORMS, kl_FORMS, vf_FORMS_command, rfl⟩⟩,
    kf_FORMS_answer := ⟨_, PySem.W.mg_of X G a_holds_answer, ⟨_, _, _, l_FORMS, kl_FORMS, vf_FORMS_answer, rfl⟩⟩,
    km_FORMS_0 := m_FORMS_0,
    g_CONSTANTS := PySem.W.mg_of X G a_CONSTANTS,
    kd_CONSTANTS := ⟨_, _, ⟨l_CONSTANTS, kl_CONSTANTS, lo_CONSTANTS⟩⟩,
    kc_CONSTANTS_0 := ⟨_, _, _, l_CONSTANTS, kl_CONSTANTS, vc_CONSTANTS_0, rfl⟩,
    kc_CONSTANTS_1 := ⟨_, _, _, l_CONSTANTS, kl_CONSTANTS, vc_CONSTANTS_1, rfl⟩,
    kc_CONSTANTS_2 := ⟨_, _, _, l_CONSTANTS, kl_CONSTANTS, vc_CONSTANTS_2, rfl⟩,
    km_CONSTANTS_0 := m_CONSTANTS_0,
    km_CONSTANTS_1 := m_CONSTANTS_1,
    km_CONSTANTS_2 := m_CONSTANTS_2,
    km_CONSTANTS_3 := m_CONSTANTS_3,
    km_CONSTANTS_4 := m_CONSTANTS_4,
    km_CONSTANTS_5 := m_CONSTANTS_5,
    km_CONSTANTS_6 := m_CONSTANTS_6,
    km_CONSTANTS_7 := m_CONSTANTS_7,
    km_CONSTANTS_8 := m_CONSTANTS_8,
    km_CONSTANTS_9 := m_CONSTANTS_9,
    km_CONSTANTS_10 := m_CONSTANTS_10,
    km_CONSTANTS_11 := m_CONSTANTS_11,
    km_CONSTANTS_12 := m_CONSTANTS_12,
    km_CONSTANTS_13 := m_CONSTANTS_13,
    km_CONSTANTS_14 := m_CONSTANTS_14,
    km_CONSTANTS_15 := m_CONSTANTS_15,
    km_CONSTANTS_16 := m_CONSTANTS_16,
    km_CONSTANTS_17 := m_CONSTANTS_17,
    km_CONSTANTS_18 := m_CONSTANTS_18,
    km_CONSTANTS_19 := m_CONSTANTS_19,
    km_CONSTANTS_20 := m_CONSTANTS_20,
    km_CONSTANTS_21 := m_CONSTANTS_21,
    km_CONSTANTS_22 := m_CONSTANTS_22,
    km_CONSTANTS_23 := m_CONSTANTS_23,
    km_CONSTANTS_24 := m_CONSTANTS_24,
    km_CONSTANTS_25 := m_CONSTANTS_25,
    km_CONSTANTS_26 := m_CONSTANTS_26,
    km_CONSTANTS_27 := m_CONSTANTS_27,
    km_CONSTANTS_28 := m_CONSTANTS_28,
    km_CONSTANTS_29 := m_CONSTANTS_29,
    km_CONSTANTS_30 := m_CONSTANTS_30,
    km_CONSTANTS_31 := m_CONSTANTS_31,
    km_CONSTANTS_32 := m_CONSTANTS_32,
    km_CONSTANTS_33 := m_CONSTANTS_33,
    km_CONSTANTS_34 := m_CONSTANTS_34,
    km_CONSTANTS_35 := m_CONSTANTS_35,
    km_CONSTANTS_36 := m_CONSTANTS_36,
    km_CONSTANTS_37 := m_CONSTANTS_37,
    km_CONSTANTS_38 := m_CONSTANTS_38,
    km_CONSTANTS_39 := m_CONSTANTS_39,
    km_CONSTANTS_40 := m_CONSTANTS_40,
    km_CONSTANTS_41 := m_CONSTANTS_41,
    km_CONSTANTS_42 := m_CONSTANTS_42,
    km_CONSTANTS_43 := m_CONSTANTS_43,
    km_CONSTANTS_44 := m_CONSTANTS_44,
    km_CONSTANTS_45 := m_CONSTANTS_45,
    km_CONSTANTS_46 := m_CONSTANTS_46,
    km_CONSTANTS_47 := m_CONSTANTS_47,
    km_CONSTANTS_48 := m_CONSTANTS_48,
    km_CONSTANTS_49 := m_CONSTANTS_49,
    km_CONSTANTS_50 := m_CONSTANTS_50,
    km_CONSTANTS_51 := m_CONSTANTS_51,
    km_CONSTANTS_52 := m_CONSTANTS_52,
    km_CONSTANTS_53 := m_CONSTANTS_53,
    km_CONSTANTS_54 := m_CONSTANTS_54,
    km_CONSTANTS_55 := m_CONSTANTS_55,
    km_CONSTANTS_56 := m_CONSTANTS_56,
    km_CONSTANTS_57 := m_CONSTANTS_57,
    km_CONSTANTS_58 := m_CONSTANTS_58,
    km_CONSTANTS_59 := m_CONSTANTS_59,
    km_CONSTANTS_60 := m_CONSTANTS_60,
    km_CONSTANTS_61 := m_CONSTANTS_61,
    km_CONSTANTS_62 := m_CONSTANTS_62,
    km_CONSTANTS_63 := m_CONSTANTS_63,
    km_CONSTANTS_64 := m_CONSTANTS_64,
    km_CONSTANTS_65 := m_CONSTANTS_65,
    km_CONSTANTS_66 := m_CONSTANTS_66,
    km_CONSTANTS_67 := m_CONSTANTS_67,
    km_CONSTANTS_68 := m_CONSTANTS_68,
    km_CONSTANTS_69 := m_CONSTANTS_69,
    km_CONSTANTS_70 := m_CONSTANTS_70,
    km_CONSTANTS_71 := m_CONSTANTS_71,
    km_CONSTANTS_72 := m_CONSTANTS_72,
    km_CONSTANTS_73 := m_CONSTANTS_73,
    km_CONSTANTS_74 := m_CONSTANTS_74,
    km_CONSTANTS_75 := m_CONSTANTS_75,
    km_CONSTANTS_76 := m_CONSTANTS_76,
    km_CONSTANTS_77 := m_CONSTANTS_77,
    km_CONSTANTS_78 := m_CONSTANTS_78,
    km_CONSTANTS_79 := m_CONSTANTS_79,
    km_CONSTANTS_80 := m_CONSTANTS_80,
    km_CONSTANTS_81 := m_CONSTANTS_81,
    km_CONSTANTS_82 := m_CONSTANTS_82,
    km_CONSTANTS_83 := m_CONSTANTS_83,
    km_CONSTANTS_84 := m_CONSTANTS_84,
    km_CONSTANTS_85 := m_CONSTANTS_85,
    km_CONSTANTS_86 := m_CONSTANTS_86,
    km_CONSTANTS_87 := m_CONSTANTS_87,
    km_CONSTANTS_88 := m_CONSTANTS_88,
    km_CONSTANTS_89 := m_CONSTANTS_89,
    km_CONSTANTS_90 := m_CONSTANTS_90,
    u_BadGroup_BadGroup := u_BadGroup_BadGroup,
    u_BadLetter_BadLetter := u_BadLetter_BadLetter,
    u_BadText_BadText := u_BadText_BadText,
    u_BadLetter_BadText := u_BadLetter_BadText,
    u_BadText_BadLetter := u_BadText_BadLetter,
    c_MOST_ANSWER := ⟨_, PySem.W.mg_of X G a_MOST_ANSWER, _, rfl⟩,
    c_MOST_CLIENTS := ⟨_, PySem.W.mg_of X G a_MOST_CLIENTS, _, rfl⟩,
    c_MOST_DEPTH := ⟨_, PySem.W.mg_of X G a_MOST_DEPTH, _, rfl⟩,
    c_MOST_DIGITS := ⟨_, PySem.W.mg_of X G a_MOST_DIGITS, _, rfl⟩,
    c_MOST_FAULTS := ⟨_, PySem.W.mg_of X G a_MOST_FAULTS, _, rfl⟩,
    c_MOST_LENGTH := ⟨_, PySem.W.mg_of X G a_MOST_LENGTH, _, rfl⟩,
    c_MOST_NUMBER := ⟨_, PySem.W.mg_of X G a_MOST_NUMBER, _, rfl⟩,
    c_MOST_TEXT := ⟨_, PySem.W.mg_of X G a_MOST_TEXT, _, rfl⟩,
    z_abs := PySem.W.mg_none_of X G z_abs,
    z_bool := PySem.W.mg_none_of X G z_bool,
    z_int := PySem.W.mg_none_of X G z_int,
    z_isinstance := PySem.W.mg_none_of X G z_isinstance,
    z_len := PySem.W.mg_none_of X G z_len,
    z_min := PySem.W.mg_none_of X G z_min,
    z_range := PySem.W.mg_none_of X G z_range,
    z_str := PySem.W.mg_none_of X G z_str,
    z_tuple := PySem.W.mg_none_of X G z_tuple }
end Law
open PySem PySem.W PyProof.Rows
set_option maxRecDepth 100000 in
set_option maxHeartbeats 0 in
theorem PySem.Challenge.cw_oathledger_k11_packets_holds : PySem.Challenge.rw_oathledger_k11_packets.Holds := by
  w_on; o_law; k_head; (case hw => w_witness2)
  k_fill
  refine L2.walk_of (l := PySem.Challenge.rw_oathledger_k11_packets) (n := 63) (k := 40) (x := "script") (CX := fun _ => L2.CX0) (sp := fun w => Law.spLaw _) rfl (by decide) rfl ⟨rfl, by decide, by decide⟩ (fun w h Y => PySem.W.kIn_of Y) ?F (fun _ _ a ns hl _ hS => ⟨a, ns, rfl, hS, hl, fun _ => rfl⟩) (fun _ _ _ _ _ h => h)
  case F =>
    intro w mg fa h KX G hmg
    refine' Law.fin hmg (Law.all_mk KX G ?a_is_integer ?l_is_integer ?e_is_integer ?k_is_integer ?a_is_printable ?l_is_printable ?e_is_printable ?k_is_printable ?a_is_short ?l_is_short ?e_is_short ?k_is_short ?a_is_decimal ?l_is_decimal ?e_is_decimal ?k_is_decimal ?a_encode ?l_encode ?e_encode ?k_encode ?a_text_of ?l_text_of ?e_text_of ?k_text_of ?a_tuple_text ?l_tuple_text ?e_tuple_text ?k_tuple_text ?a_single_text ?l_single_text ?e_single_text ?k_single_text ?a_has_few_digits ?l_has_few_digits ?e_has_few_digits ?k_has_few_digits ?a_decode ?l_decode ?e_decode ?k_decode ?a_read_value ?l_read_value ?e_read_value ?k_read_value ?a_value_at ?l_value_at ?e_value_at ?k_value_at ?a_number_at ?l_number_at ?e_number_at ?k_number_at ?a_integer_at ?l_integer_at ?e_integer_at ?k_integer_at ?a_string_at ?l_string_at ?e_string_at ?k_string_at ?a_tuple_at ?l_tuple_at ?e_tuple_at ?k_tuple_at ?a_is_client ?l_is_client ?e_is_client ?k_is_client ?a_is_number ?l_is_number ?e_is_number ?k_is_number ?a_is_command ?l_is_command ?e_is_command ?k_is_command ?a_is_command_list ?l_is_command_list ?e_is_command_list ?k_is_command_list ?a_is_block ?l_is_block ?e_is_block ?k_is_block ?a_is_height_above ?l_is_height_above ?e_is_height_above ?k_is_height_above ?a_holds_vouch ?l_holds_vouch ?e_holds_vouch ?k_holds_vouch ?a_holds_block ?l_holds_block ?e_holds_block ?k_holds_block ?a_holds_claim ?l_holds_claim ?e_holds_claim ?k_holds_claim ?a_holds_give ?l_holds_give ?e_holds_give ?k_holds_give ?a_holds_request ?l_holds_request ?e_holds_request ?k_holds_request ?a_holds_answer ?l_holds_answer ?e_holds_answer ?k_holds_answer ?a_is_letter ?l_is_letter ?e_is_letter ?k_is_letter ?a_route ?l_route ?e_route ?k_route ?a_check_letter ?l_check_letter ?e_check_letter ?k_check_letter ?a_pack ?l_pack ?e_pack ?k_pack ?a_unpack ?l_unpack ?e_unpack ?k_unpack ?a__law_draws ?l__law_draws ?e__law_draws ?k__law_draws ?a__law_next ?l__law_next ?e__law_next ?k__law_next ?a__law_big ?l__law_big ?e__law_big ?k__law_big ?a__law_char ?l__law_char ?e__law_char ?k__law_char ?a__law_string ?l__law_string ?e__law_string ?k__law_string ?a__law_command ?l__law_command ?e__law_command ?k__law_command ?a__law_commands ?l__law_commands ?e__law_commands ?k__law_commands ?a__law_block ?l__law_block ?e__law_block ?k__law_block ?a__law_letter ?l__law_letter ?e__law_letter ?k__law_letter ?a__law_kind ?l__law_kind ?e__law_kind ?k__law_kind ?a__law_same ?l__law_same ?e__law_same ?k__law_same ?a__law_text ?l__law_text ?e__law_text ?k__law_text ?a__law_unpacked ?l__law_unpacked ?e__law_unpacked ?k__law_unpacked ?a__law_ends ?l__law_ends ?e__law_ends ?k__law_ends ?a_law ?l_law ?e_law ?k_law ?ac_Group ?pg_Group ?hd_Group ?po_Group ?sa_Group ?mk_Group ?kc_Group ?na_Group_faults ?na_Group_machines ?na_Group_quorum ?na_Group_blocking ?a_Group____init__ ?i_Group____init__ ?l_Group____init__ ?e_Group____init__ ?k_Group____init__ ?a_Group__is_member ?i_Group__is_member ?l_Group__is_member ?e_Group__is_member ?k_Group__is_member ?xa_BadGroup ?xe_BadGroup ?xk_BadGroup ?xb_BadGroup ?xt_BadGroup ?xh_BadGroup ?xa_BadLetter ?xe_BadLetter ?xk_BadLetter ?xb_BadLetter ?xt_BadLetter ?xh_BadLetter ?xa_BadText ?xe_BadText ?xk_BadText ?xb_BadText ?xt_BadText ?xh_BadText ?a_FORMS ?l_FORMS ?kl_FORMS ?lo_FORMS ?vf_FORMS_vouch ?vf_FORMS_propose ?vf_FORMS_vote ?vf_FORMS_ready ?vf_FORMS_claim ?vf_FORMS_give ?vf_FORMS_command ?vf_FORMS_answer ?m_FORMS_0 ?a_CONSTANTS ?l_CONSTANTS ?kl_CONSTANTS ?lo_CONSTANTS ?vc_CONSTANTS_0 ?vc_CONSTANTS_1 ?vc_CONSTANTS_2 ?m_CONSTANTS_0 ?m_CONSTANTS_1 ?m_CONSTANTS_2 ?m_CONSTANTS_3 ?m_CONSTANTS_4 ?m_CONSTANTS_5 ?m_CONSTANTS_6 ?m_CONSTANTS_7 ?m_CONSTANTS_8 ?m_CONSTANTS_9 ?m_CONSTANTS_10 ?m_CONSTANTS_11 ?m_CONSTANTS_12 ?m_CONSTANTS_13 ?m_CONSTANTS_14 ?m_CONSTANTS_15 ?m_CONSTANTS_16 ?m_CONSTANTS_17 ?m_CONSTANTS_18 ?m_CONSTANTS_19 ?m_CONSTANTS_20 ?m_CONSTANTS_21 ?m_CONSTANTS_22 ?m_CONSTANTS_23 ?m_CONSTANTS_24 ?m_CONSTANTS_25 ?m_CONSTANTS_26 ?m_CONSTANTS_27 ?m_CONSTANTS_28 ?m_CONSTANTS_29 ?m_CONSTANTS_30 ?m_CONSTANTS_31 ?m_CONSTANTS_32 ?m_CONSTANTS_33 ?m_CONSTANTS_34 ?m_CONSTANTS_35 ?m_CONSTANTS_36 ?m_CONSTANTS_37 ?m_CONSTANTS_38 ?m_CONSTANTS_39 ?m_CONSTANTS_40 ?m_CONSTANTS_41 ?m_CONSTANTS_42 ?m_CONSTANTS_43 ?m_CONSTANTS_44 ?m_CONSTANTS_45 ?m_CONSTANTS_46 ?m_CONSTANTS_47 ?m_CONSTANTS_48 ?m_CONSTANTS_49 ?m_CONSTANTS_50 ?m_CONSTANTS_51 ?m_CONSTANTS_52 ?m_CONSTANTS_53 ?m_CONSTANTS_54 ?m_CONSTANTS_55 ?m_CONSTANTS_56 ?m_CONSTANTS_57 ?m_CONSTANTS_58 ?m_CONSTANTS_59 ?m_CONSTANTS_60 ?m_CONSTANTS_61 ?m_CONSTANTS_62 ?m_CONSTANTS_63 ?m_CONSTANTS_64 ?m_CONSTANTS_65 ?m_CONSTANTS_66 ?m_CONSTANTS_67 ?m_CONSTANTS_68 ?m_CONSTANTS_69 ?m_CONSTANTS_70 ?m_CONSTANTS_71 ?m_CONSTANTS_72 ?m_CONSTANTS_73 ?m_CONSTANTS_74 ?m_CONSTANTS_75 ?m_CONSTANTS_76 ?m_CONSTANTS_77 ?m_CONSTANTS_78 ?m_CONSTANTS_79 ?m_CONSTANTS_80 ?m_CONSTANTS_81 ?m_CONSTANTS_82 ?m_CONSTANTS_83 ?m_CONSTANTS_84 ?m_CONSTANTS_85 ?m_CONSTANTS_86 ?m_CONSTANTS_87 ?m_CONSTANTS_88 ?m_CONSTANTS_89 ?m_CONSTANTS_90 ?u_BadGroup_BadGroup ?u_BadLetter_BadLetter ?u_BadText_BadText ?u_BadLetter_BadText ?u_BadText_BadLetter ?a_MOST_ANSWER ?a_MOST_CLIENTS ?a_MOST_DEPTH ?a_MOST_DIGITS ?a_MOST_FAULTS ?a_MOST_LENGTH ?a_MOST_NUMBER ?a_MOST_TEXT ?z_abs ?z_bool ?z_int ?z_isinstance ?z_len ?z_min ?z_range ?z_str ?z_tuple)
    (case a_is_integer => k_is)
    (case l_is_integer => k_is)
    (case e_is_integer => k_is)
    (case k_is_integer => k_is)
    (case a_is_printable => k_is)
    (case l_is_printable => k_is)
    (case e_is_printable => k_is)
    (case k_is_printable => k_is)
    (case a_is_short => k_is)
    (case l_is_short => k_is)
    (case e_is_short => k_is)
    (case k_is_short => k_is)
    (case a_is_decimal => k_is)
    (case l_is_decimal => k_is)
    (case e_is_decimal => k_is)
    (case k_is_decimal => k_is)
    (case a_encode => k_is)
    (case l_encode => k_is)
    (case e_encode => k_is)
    (case k_encode => k_is)
    (case a_text_of => k_is)
    (case l_text_of => k_is)
    (case e_text_of => k_is)
    (case k_text_of => k_is)
    (case a_tuple_text => k_is)
    (case l_tuple_text => k_is)
    (case e_tuple_text => k_is)
    (case k_tuple_text => k_is)
    (case a_single_text => k_is)
    (case l_single_text => k_is)
    (case e_single_text => k_is)
    (case k_single_text => k_is)
    (case a_has_few_digits => k_is)
    (case l_has_few_digits => k_is)
    (case e_has_few_digits => k_is)
    (case k_has_few_digits => k_is)
    (case a_decode => k_is)
    (case l_decode => k_is)
    (case e_decode => k_is)
    (case k_decode => k_is)
    (case a_read_value => k_is)
    (case l_read_value => k_is)
    (case e_read_value => k_is)
    (case k_read_value => k_is)
    (case a_value_at => k_is)
    (case l_value_at => k_is)
    (case e_value_at => k_is)
    (case k_value_at => k_is)
    (case a_number_at => k_is)
    (case l_number_at => k_is)
    (case e_number_at => k_is)
    (case k_number_at => k_is)
    (case a_integer_at => k_is)
    (case l_integer_at => k_is)
    (case e_integer_at => k_is)
    (case k_integer_at => k_is)
    (case a_string_at => k_is)
    (case l_string_at => k_is)
    (case e_string_at => k_is)
    (case k_string_at => k_is)
    (case a_tuple_at => k_is)
    (case l_tuple_at => k_is)
    (case e_tuple_at => k_is)
    (case k_tuple_at => k_is)
    (case a_is_client => k_is)
    (case l_is_client => k_is)
    (case e_is_client => k_is)
    (case k_is_client => k_is)
    (case a_is_number => k_is)
    (case l_is_number => k_is)
    (case e_is_number => k_is)
    (case k_is_number => k_is)
    (case a_is_command => k_is)
    (case l_is_command => k_is)
    (case e_is_command => k_is)
    (case k_is_command => k_is)
    (case a_is_command_list => k_is)
    (case l_is_command_list => k_is)
    (case e_is_command_list => k_is)
    (case k_is_command_list => k_is)
    (case a_is_block => k_is)
    (case l_is_block => k_is)
    (case e_is_block => k_is)
    (case k_is_block => k_is)
    (case a_is_height_above => k_is)
    (case l_is_height_above => k_is)
    (case e_is_height_above => k_is)
    (case k_is_height_above => k_is)
    (case a_holds_vouch => k_is)
    (case l_holds_vouch => k_is)
    (case e_holds_vouch => k_is)
    (case k_holds_vouch => k_is)
    (case a_holds_block => k_is)
    (case l_holds_block => k_is)
    (case e_holds_block => k_is)
    (case k_holds_block => k_is)
    (case a_holds_claim => k_is)
    (case l_holds_claim => k_is)
    (case e_holds_claim => k_is)
    (case k_holds_claim => k_is)
    (case a_holds_give => k_is)
    (case l_holds_give => k_is)
    (case e_holds_give => k_is)
    (case k_holds_give => k_is)
    (case a_holds_request => k_is)
    (case l_holds_request => k_is)
    (case e_holds_request => k_is)
    (case k_holds_request => k_is)
    (case a_holds_answer => k_is)
    (case l_holds_answer => k_is)
    (case e_holds_answer => k_is)
    (case k_holds_answer => k_is)
    (case a_is_letter => k_is)
    (case l_is_letter => k_is)
    (case e_is_letter => k_is)
    (case k_is_letter => k_is)
    (case a_route => k_is)
    (case l_route => k_is)
    (case e_route => k_is)
    (case k_route => k_is)
    (case a_check_letter => k_is)
    (case l_check_letter => k_is)
    (case e_check_letter => k_is)
    (case k_check_letter => k_is)
    (case a_pack => k_is)
    (case l_pack => k_is)
    (case e_pack => k_is)
    (case k_pack => k_is)
    (case a_unpack => k_is)
    (case l_unpack => k_is)
    (case e_unpack => k_is)
    (case k_unpack => k_is)
    (case a__law_draws => k_is)
    (case l__law_draws => k_is)
    (case e__law_draws => k_is)
    (case k__law_draws => k_is)
    (case a__law_next => k_is)
    (case l__law_next => k_is)
    (case e__law_next => k_is)
    (case k__law_next => k_is)
    (case a__law_big => k_is)
    (case l__law_big => k_is)
    (case e__law_big => k_is)
    (case k__law_big => k_is)
    (case a__law_char => k_is)
    (case l__law_char => k_is)
    (case e__law_char => k_is)
    (case k__law_char => k_is)
    (case a__law_string => k_is)
    (case l__law_string => k_is)
    (case e__law_string => k_is)
    (case k__law_string => k_is)
    (case a__law_command => k_is)
    (case l__law_command => k_is)
    (case e__law_command => k_is)
    (case k__law_command => k_is)
    (case a__law_commands => k_is)
    (case l__law_commands => k_is)
    (case e__law_commands => k_is)
    (case k__law_commands => k_is)
    (case a__law_block => k_is)
    (case l__law_block => k_is)
    (case e__law_block => k_is)
    (case k__law_block => k_is)
    (case a__law_letter => k_is)
    (case l__law_letter => k_is)
    (case e__law_letter => k_is)
    (case k__law_letter => k_is)
    (case a__law_kind => k_is)
    (case l__law_kind => k_is)
    (case e__law_kind => k_is)
    (case k__law_kind => k_is)
    (case a__law_same => k_is)
    (case l__law_same => k_is)
    (case e__law_same => k_is)
    (case k__law_same => k_is)
    (case a__law_text => k_is)
    (case l__law_text => k_is)
    (case e__law_text => k_is)
    (case k__law_text => k_is)
    (case a__law_unpacked => k_is)
    (case l__law_unpacked => k_is)
    (case e__law_unpacked => k_is)
    (case k__law_unpacked => k_is)
    (case a__law_ends => k_is)
    (case l__law_ends => k_is)
    (case e__law_ends => k_is)
    (case k__law_ends => k_is)
    (case a_law => k_is)
    (case l_law => k_is)
    (case e_law => k_is)
    (case k_law => k_is)
    (case ac_Group => k_is)
    (case pg_Group => k_is)
    (case hd_Group => k_is)
    (case po_Group => k_is)
    (case sa_Group => k_is)
    (case mk_Group => k_is)
    (case kc_Group => k_is)
    (case na_Group_faults => k_is)
    (case na_Group_machines => k_is)
    (case na_Group_quorum => k_is)
    (case na_Group_blocking => k_is)
    (case a_Group____init__ => k_is)
    (case i_Group____init__ => k_is)
    (case l_Group____init__ => k_is)
    (case e_Group____init__ => k_is)
    (case k_Group____init__ => k_is)
    (case a_Group__is_member => k_is)
    (case i_Group__is_member => k_is)
    (case l_Group__is_member => k_is)
    (case e_Group__is_member => k_is)
    (case k_Group__is_member => k_is)
    (case xa_BadGroup => k_is)
    (case xe_BadGroup => first | k_is | k_exc)
    (case xk_BadGroup => k_is)
    (case xb_BadGroup => k_is)
    (case xt_BadGroup => k_is)
    (case xh_BadGroup => k_is)
    (case xa_BadLetter => k_is)
    (case xe_BadLetter => first | k_is | k_exc)
    (case xk_BadLetter => k_is)
    (case xb_BadLetter => k_is)
    (case xt_BadLetter => k_is)
    (case xh_BadLetter => k_is)
    (case xa_BadText => k_is)
    (case xe_BadText => first | k_is | k_exc)
    (case xk_BadText => k_is)
    (case xb_BadText => k_is)
    (case xt_BadText => k_is)
    (case xh_BadText => k_is)
    (case a_FORMS => k_is)
    (case l_FORMS => k_is)
    (case kl_FORMS => k_keys)
    (case lo_FORMS => decide)
    (case vf_FORMS_vouch => k_is)
    (case vf_FORMS_propose => k_is)
    (case vf_FORMS_vote => k_is)
    (case vf_FORMS_ready => k_is)
    (case vf_FORMS_claim => k_is)
    (case vf_FORMS_give => k_is)
    (case vf_FORMS_command => k_is)
    (case vf_FORMS_answer => k_is)
    (case m_FORMS_0 => k_is)
    (case a_CONSTANTS => k_is)
    (case l_CONSTANTS => k_is)
    (case kl_CONSTANTS => k_keys)
    (case lo_CONSTANTS => decide)
    (case vc_CONSTANTS_0 => k_is)
    (case vc_CONSTANTS_1 => k_is)
    (case vc_CONSTANTS_2 => k_is)
    (case m_CONSTANTS_0 => k_is)
    (case m_CONSTANTS_1 => k_is)
    (case m_CONSTANTS_2 => k_is)
    (case m_CONSTANTS_3 => k_is)
    (case m_CONSTANTS_4 => k_is)
    (case m_CONSTANTS_5 => k_is)
    (case m_CONSTANTS_6 => k_is)
    (case m_CONSTANTS_7 => k_is)
    (case m_CONSTANTS_8 => k_is)
    (case m_CONSTANTS_9 => k_is)
    (case m_CONSTANTS_10 => k_is)
    (case m_CONSTANTS_11 => k_is)
    (case m_CONSTANTS_12 => k_is)
    (case m_CONSTANTS_13 => k_is)
    (case m_CONSTANTS_14 => k_is)
    (case m_CONSTANTS_15 => k_is)
    (case m_CONSTANTS_16 => k_is)
    (case m_CONSTANTS_17 => k_is)
    (case m_CONSTANTS_18 => k_is)
    (case m_CONSTANTS_19 => k_is)
    (case m_CONSTANTS_20 => k_is)
    (case m_CONSTANTS_21 => k_is)
    (case m_CONSTANTS_22 => k_is)
    (case m_CONSTANTS_23 => k_is)
    (case m_CONSTANTS_24 => k_is)
    (case m_CONSTANTS_25 => k_is)
    (case m_CONSTANTS_26 => k_is)
    (case m_CONSTANTS_27 => k_is)
    (case m_CONSTANTS_28 => k_is)
    (case m_CONSTANTS_29 => k_is)
    (case m_CONSTANTS_30 => k_is)
    (case m_CONSTANTS_31 => k_is)
    (case m_CONSTANTS_32 => k_is)
    (case m_CONSTANTS_33 => k_is)
    (case m_CONSTANTS_34 => k_is)
    (case m_CONSTANTS_35 => k_is)
    (case m_CONSTANTS_36 => k_is)
    (case m_CONSTANTS_37 => k_is)
    (case m_CONSTANTS_38 => k_is)
    (case m_CONSTANTS_39 => k_is)
    (case m_CONSTANTS_40 => k_is)
    (case m_CONSTANTS_41 => k_is)
    (case m_CONSTANTS_42 => k_is)
    (case m_CONSTANTS_43 => k_is)
    (case m_CONSTANTS_44 => k_is)
    (case m_CONSTANTS_45 => k_is)
    (case m_CONSTANTS_46 => k_is)
    (case m_CONSTANTS_47 => k_is)
    (case m_CONSTANTS_48 => k_is)
    (case m_CONSTANTS_49 => k_is)
    (case m_CONSTANTS_50 => k_is)
    (case m_CONSTANTS_51 => k_is)
    (case m_CONSTANTS_52 => k_is)
    (case m_CONSTANTS_53 => k_is)
    (case m_CONSTANTS_54 => k_is)
    (case m_CONSTANTS_55 => k_is)
    (case m_CONSTANTS_56 => k_is)
    (case m_CONSTANTS_57 => k_is)
    (case m_CONSTANTS_58 => k_is)
    (case m_CONSTANTS_59 => k_is)
    (case m_CONSTANTS_60 => k_is)
    (case m_CONSTANTS_61 => k_is)
    (case m_CONSTANTS_62 => k_is)
    (case m_CONSTANTS_63 => k_is)
    (case m_CONSTANTS_64 => k_is)
    (case m_CONSTANTS_65 => k_is)
    (case m_CONSTANTS_66 => k_is)
    (case m_CONSTANTS_67 => k_is)
    (case m_CONSTANTS_68 => k_is)
    (case m_CONSTANTS_69 => k_is)
    (case m_CONSTANTS_70 => k_is)
    (case m_CONSTANTS_71 => k_is)
    (case m_CONSTANTS_72 => k_is)
    (case m_CONSTANTS_73 => k_is)
    (case m_CONSTANTS_74 => k_is)
    (case m_CONSTANTS_75 => k_is)
    (case m_CONSTANTS_76 => k_is)
    (case m_CONSTANTS_77 => k_is)
    (case m_CONSTANTS_78 => k_is)
    (case m_CONSTANTS_79 => k_is)
    (case m_CONSTANTS_80 => k_is)
    (case m_CONSTANTS_81 => k_is)
    (case m_CONSTANTS_82 => k_is)
    (case m_CONSTANTS_83 => k_is)
    (case m_CONSTANTS_84 => k_is)
    (case m_CONSTANTS_85 => k_is)
    (case m_CONSTANTS_86 => k_is)
    (case m_CONSTANTS_87 => k_is)
    (case m_CONSTANTS_88 => k_is)
    (case m_CONSTANTS_89 => k_is)
    (case m_CONSTANTS_90 => k_is)
    (case u_BadGroup_BadGroup => k_is)
    (case u_BadLetter_BadLetter => k_is)
    (case u_BadText_BadText => k_is)
    (case u_BadLetter_BadText => k_is)
    (case u_BadText_BadLetter => k_is)
    (case a_MOST_ANSWER => k_is)
    (case a_MOST_CLIENTS => k_is)
    (case a_MOST_DEPTH => k_is)
    (case a_MOST_DIGITS => k_is)
    (case a_MOST_FAULTS => k_is)
    (case a_MOST_LENGTH => k_is)
    (case a_MOST_NUMBER => k_is)
    (case a_MOST_TEXT => k_is)
    (case z_abs => k_is)
    (case z_bool => k_is)
    (case z_int => k_is)
    (case z_isinstance => k_is)
    (case z_len => k_is)
    (case z_min => k_is)
    (case z_range => k_is)
    (case z_str => k_is)
    (case z_tuple => k_is)

