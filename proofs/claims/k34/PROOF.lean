import PyProof.Rows.All
import Wide.All
import OpenK.AllK
import Wide.FinOn
import HandS.ForMost
import HandS.Walk
import HandS.Flow
import HandS.Codes
import HandS.IsInst
import HandS.Conv
import HandS.StrMore
import PyProof.MeetsSeq2
import PyProof.DictTable
import HandS.Wide
import HandS.TupAny
import HandS.More
import HandS.Dict
import HandS.ForExc
import HandS.ExcIs
import HandS.ExcField
import HandS.DeepEq
import HandS.TupLe
import HandS.Steps
import HandS.ExcInit
import HandS.SortRule
import HandS.RaiseMore
import HandS.Zip
import PySem.Challenge.RW_oathledger_k34_ballot_remembers
set_option Elab.async false
set_option linter.all false
set_option maxRecDepth 100000
set_option maxHeartbeats 4000000
namespace Law
open PySem PySem.Spec PyProof.Rows L2
open C8 (Cal Met Mak pe_c pe_mk pe_mt pe_mt0 pe_gc pss_cut tCut)
/-! ### a def of the top, by its name -/
structure DefOk (K : PySem.W.Frag) (mg : Str → Option Value) (x : Str) (st : Stmt) (ps : List Str) : Prop where
  ex : ∃ (f : Addr) (fd : FuncData), L2.Fun K x x st f fd ∧ mg x = some (.ref f) ∧ Binds K fd ps []
section
variable {P : Program} {w : World} {K : PySem.W.Frag} {mg : Str → Option Value} {base : Heap}
/-- a def's promise, by its body -/
theorem cal {x : Str} {st : Stmt} {N ps : List Str} {k : Nat} {sp : Sp} (D : DefOk K mg x st ps) (S : FnScope N ps (defScope st)) (len : ∀ vs H Q E, sp vs H Q E → vs.length = ps.length)
    (hbody : ∀ (f : Addr) (cdv : Value) (A : Around) (outer : List Env) (s : Shared) (H : Hp) (vs : List V) (Q : VK) (E : XK), Room k (A.deeper (envOfC x (defScope st) s.heap.objs.size f cdv)) → sp vs H Q E →
      ∃ t, PSs (cxOf L2.CX0 P w K mg base N x (defScope st) f cdv A outer s H E).nox (defBody st) t ∧ t { nx := fun _ H' => Q .non H', rt := Q } (start N vs) H) : Cal P w K mg base (k + 1) x sp [] := by
  obtain ⟨f, fd, F, hm, b⟩ := D.ex
  exact ⟨f, fd, ps, [], F.ok S len (fun cdv A outer s H vs Q E hr h => hbody f cdv A outer s H vs Q E hr h), hm, F.kp, b, .nil⟩
/-- a call without arguments -/
theorem pe_c0 {X : Cx} {k j : Nat} {x : Str} {sp : Sp} {dvs : List V} {p pos : Pos} (c : Cal X.prog X.w X.K X.mg X.base k x sp dvs) (hr : Room j X.A) (hk : k ≤ j) (hg : Gl X x)
    (hdb : (x == ("__debug__" : Str)) = false := by decide) : PE X (.Call (.Name x p) [] [] pos) (tCall sp dvs L2.E0 tNil) := by
  obtain ⟨f, fd, ps, ds, F, hm, kp, b, d⟩ := c.ex
  exact pe_call0 F (hr.mono hk) hg hm kp b d pass0 hdb
end
/-! ### small things -/
theorem same_upd {H : Hp} {p : Addr} {o : HO} (h : H p = none) : Same H (upd H p o) := fun b x e => by
  rw [upd_ne (ne_of_none e h)]
  exact e
theorem same_mut {H H' : Hp} {p : Addr} {o : HO} (s : Same H H') (h : H p = none) : Same H (upd H' p o) := fun b x e => by
  rw [upd_ne (ne_of_none e h)]
  exact s b x e
theorem sz1000 {n : Nat} (h : n ≤ 100000) : n ≤ sizeLine := Nat.le_trans h (by decide)
theorem sz1000' {n : Nat} (h : n < 100000) : n < sizeLine := Nat.lt_of_lt_of_le h (by decide)
theorem sz1000'' {n : Nat} (h : n ≤ 16777216) : n ≤ sizeLine := by rw [sizeLine_eq]; exact h
theorem sq {K : PySem.W.Frag} {H : Hp} {a : Addr} {xs : List V} (h : H a = some (.lst xs)) : SqL K H a xs := .inl (.inl h)
def spLaw (K : PySem.W.Frag) : Sp := fun vs H Q _ => ∃ (a : Addr) (ns : List Int), vs = [.ref a] ∧ SqL K H a (ns.map V.int) ∧ ns.length ≤ 63 ∧ ∀ H', Q (.bl true) H'
/-! ### the reading, step by step -/
local macro_rules | `(tactic| walk_at "sd") => `(tactic| first
  | omega
  | decide
  | assumption
  | (show _ ∨ _; exact Or.inl ⟨by omega, by omega⟩)
  | (show _ ∨ _; exact Or.inr ⟨by omega, by omega⟩)
  | (show _ ∧ _; exact ⟨by omega, by omega⟩)
  | (show _ ∧ _; exact ⟨by decide, by decide⟩)
  | exact sz1000 (by omega)
  | exact sz1000' (by omega))
local macro_rules | `(tactic| walk_at "sz") => `(tactic| first
  | exact sz1000 (Nat.le_of_ble_eq_true rfl)
  | exact sz1000 (by omega)
  | exact sz1000'' (by omega)
  | assumption)
/-- one step of a reading: a slot, an operator upon numbers, a call upon values -/
local macro_rules | `(tactic| walk_at "rd") => `(tactic| first
  | refine ⟨_, (rfl : (_ : List (Option V))[_]? = some (some _)), ?_⟩
  | refine ⟨_, _, (rfl : (_ : V) = _), (rfl : (_ : V) = _), (by walk_at "sd" : (_ : Prop)), ?_⟩
  | refine ⟨_, _, (rfl : (_ : V) = _), (rfl : (_ : V) = _), ?_⟩
  | refine ⟨_, (rfl : (_ : List V) = _), (by walk_at "sd" : (_ : Prop)), (by walk_at "sd" : (_ : Prop)), ?_⟩
  | refine ⟨_, (rfl : (_ : List V) = _), ?_⟩
  | refine ⟨_, (rfl : (_ : V) = _), ?_⟩
  | refine .inl ⟨_, (rfl : (_ : List V) = _), ?_⟩
  | refine ⟨⟨_, (rfl : (_ : V) = _)⟩, ?_⟩
  | refine ⟨(rfl : scal _ _ = true), ?_⟩
  | refine ⟨(rfl : V.non = V.non), ?_⟩
  | refine ⟨(by walk_at "sz" : (_ ≤ sizeLine)), ?_⟩)
local macro_rules | `(tactic| walk_at "rds") => `(tactic| repeat walk_at "rd")
theorem tyes {σ : L2.St} {H : Hp} {A B : Hp → Prop} (h : A H) : tYes σ H (fun b H3 => if b = true then A H3 else B H3) := by
  show (if true = true then A H else B H)
  rw [if_pos rfl]
  exact h
theorem sum_ones {ys : List Str} (h : ∀ y ∈ ys, y.length = 1) : (ys.map (fun x => x.length)).sum = ys.length := by
  induction ys with
  | nil => rfl
  | cons y r ih =>
    rw [List.map_cons, List.sum_cons, ih (fun z hz => h z (List.mem_cons_of_mem _ hz)), h y List.mem_cons_self, List.length_cons]
    omega
theorem chr_at {z : Str} {i : Int} (h0 : 0 ≤ i) (h1 : i < z.length) : ∃ c, atI z.cps.toList i = some c := by
  obtain ⟨j, rfl⟩ := Int.eq_ofNat_of_zero_le h0
  have hj : j < z.cps.toList.length := by
    rw [Array.length_toList]
    exact Int.ofNat_lt.mp h1
  exact ⟨z.cps.toList[j], atI_nat (List.getElem?_eq_getElem hj)⟩
/-- what an append to a tracked new list leaves -/
theorem lst_app {α : Type} {H : Hp} {D : Addr} {f : α → V} {ys : List α} {y : α} : upd H D (.lst (ys.map f ++ [f y])) D = some (.lst ((ys ++ [y]).map f)) := by
  rw [upd_same, List.map_append]
  rfl
theorem rg40 {n : Nat} (h : n ≤ 100000) : RgC 0 n 40 ((n + 39) / 40) := by
  have e : Builtin.Range.rangeSize 0 (n : Int) 40 = (((n + 39) / 40 : Nat) : Int) := by
    rw [rangeSize_pos (by decide) (by omega)]
    omega
  refine ⟨by decide, by decide, ?_, e⟩
  unfold Builtin.Range.small
  rw [e]
  unfold Builtin.Range.rangeFitsLong
  simp
  omega
theorem isi {K : PySem.W.Frag} {H : Hp} {x : V} {T1 T2 : String} {b : Bool} {Q : VK} (ty : TyX K H x (.type T1)) (e : kitB T1 T2 = some b) (q : Q (.bl b) H) : rIsi K [x, .ty T2] H Q :=
  ⟨x, .ty T2, _, _, b, rfl, .ty _, ty, kit_ty e, q⟩
theorem ifT {c : Bool} {A B : Prop} (hc : c = true) (h : A) : if c = true then A else B := by
  rw [if_pos hc]
  exact h
theorem ifF {c : Bool} {A B : Prop} (hc : c = false) (h : B) : if c = true then A else B := by
  rw [if_neg (by rw [hc]; decide)]
  exact h
local macro_rules | `(tactic| walk_at "isk") => `(tactic| first
  | exact .base (.int _) | exact .base (.str _) | exact .base (.bl _) | exact .base .non
  | exact .base (.lst (by assumption)) | exact .base (.tup (by assumption)) | exact .base (.dK (by assumption)))
/-- isinstance(x, T) with a built-in T; the object's fact stands in the context -/
local macro_rules | `(tactic| walk_at "isi") => `(tactic| first
  | refine ⟨_, .ty _, _, _, true, (rfl : (_ : List V) = _), .ty _, (by walk_at "isk"), kit_ty (by decide +kernel), ?_⟩
  | refine ⟨_, .ty _, _, _, false, (rfl : (_ : List V) = _), .ty _, (by walk_at "isk"), kit_ty (by decide +kernel), ?_⟩)
/-! ### classes of the top -/
structure MethOk (K : PySem.W.Frag) (C : Addr) (m qual : Str) (st : Stmt) (ps : List Str) : Prop where
  ex : ∃ (f : Addr) (fd : FuncData), Meth K C m f ∧ L2.Fun K m qual st f fd ∧ Binds K fd ps []
structure MakOk (K : PySem.W.Frag) (C : Addr) (qual : Str) (st : Stmt) (ps : List Str) : Prop where
  ex : ∃ (f : Addr) (fd : FuncData), Mk K C f ∧ L2.Fun K "__init__" qual st f fd ∧ Binds K fd ps []
section
variable {P : Program} {w : World} {K : PySem.W.Frag} {mg : Str → Option Value} {base : Heap}
theorem met {C : Addr} {m qual : Str} {st : Stmt} {N ps : List Str} {k : Nat} {sp : Sp} (c : Cls K C) (D : MethOk K C m qual st ps) (S : FnScope N ps (defScope st)) (len : ∀ vs H Q E, sp vs H Q E → vs.length = ps.length)
    (hbody : ∀ (f : Addr) (cdv : Value) (A : Around) (outer : List Env) (s : Shared) (H : Hp) (vs : List V) (Q : VK) (E : XK), Room k (A.deeper (envOfC qual (defScope st) s.heap.objs.size f cdv)) → sp vs H Q E →
      ∃ t, PSs (cxOf L2.CX0 P w K mg base N qual (defScope st) f cdv A outer s H E).nox (defBody st) t ∧ t { nx := fun _ H' => Q .non H', rt := Q } (start N vs) H) : Met P w K mg base (k + 1) C m sp [] := by
  obtain ⟨f, fd, M, F, b⟩ := D.ex
  exact ⟨f, fd, ps, [], c, M, F.ok S len (fun cdv A outer s H vs Q E hr h => hbody f cdv A outer s H vs Q E hr h), b, .nil⟩
theorem mak {C : Addr} {x qual : Str} {st : Stmt} {N ps : List Str} {k : Nat} {sp : Sp} (hm : mg x = some (.ref C)) (D : MakOk K C qual st ps) (S : FnScope N ps (defScope st)) (len : ∀ vs H Q E, sp vs H Q E → vs.length = ps.length)
    (hbody : ∀ (f : Addr) (cdv : Value) (A : Around) (outer : List Env) (s : Shared) (H : Hp) (vs : List V) (Q : VK) (E : XK), Room k (A.deeper (envOfC qual (defScope st) s.heap.objs.size f cdv)) → sp vs H Q E →
      ∃ t, PSs (cxOf L2.CX0 P w K mg base N qual (defScope st) f cdv A outer s H E).nox (defBody st) t ∧ t { nx := fun _ H' => Q .non H', rt := Q } (start N vs) H) : Mak P w K mg base (k + 1) x C sp [] := by
  obtain ⟨f, fd, M, F, b⟩ := D.ex
  exact ⟨f, fd, ps, [], M, F.ok S len (fun cdv A outer s H vs Q E hr h => hbody f cdv A outer s H vs Q E hr h), hm, b, .nil⟩
end
/-- a tuple of the top, in the written part -/
def KTup (K : PySem.W.Frag) (a : Addr) (xs : List V) : Prop := ∃ o its n, K.lookup a = some o ∧ o.cls = Value.type "tuple" ∧ o.data = Data.seq its n ∧ its.size ≤ sizeLine ∧ Vals xs its.toList
theorem pe_mk0 {X : Cx} {k j : Nat} {x : Str} {C : Addr} {sp : Sp} {dvs : List V} {p pos : Pos} (c : Mak X.prog X.w X.K X.mg X.base k x C sp dvs) (hr : Room j X.A) (hk : k + 1 ≤ j) (hg : Gl X x)
    (hdb : (x == ("__debug__" : Str)) = false := by decide) : PE X (.Call (.Name x p) [] [] pos) (tMake C sp dvs L2.E0 tNil) := by
  obtain ⟨f, fd, ps, ds, M, F, hm, b, d⟩ := c.ex
  exact pe_make0 M F (hr.mono hk) hg hm b d pass0 hdb
/-! ### rules whose written part is named K (a comprehension's context is another one) -/
section
variable {X : Cx} {K : PySem.W.Frag}
theorem kin (h : X.K = K := by rfl) : OpR X (compareOp .In) (rIn K false) := by subst h; exact op_in_seq
theorem knin (h : X.K = K := by rfl) : OpR X (compareOp .NotIn) (rIn K true) := by subst h; exact op_notIn_seq
theorem kixl (h : X.K = K := by rfl) : IxR X (rIxL K) := by subst h; exact ix_list
theorem kixt (h : X.K = K := by rfl) : IxR X (rIxT K) := by subst h; exact ix_tup
theorem ksll (h : X.K = K := by rfl) : SlR X (rSlL K) := by subst h; exact sl_list
theorem kisi (h : X.K = K := by rfl) : CallR X (.builtin "isinstance") (rIsi K) := by subst h; exact call_isi
theorem kfld {o : Expr} {f : Str} {pos : Pos} {ta : TE} (he : PE X o ta) (hb : attributeBase o f X.env (eval o X.env) = eval o X.env := by rfl) (h : X.K = K := by rfl) : PE X (.Attribute o f pos) (tFld K ta f) := by subst h; exact pe_fld he hb
def rLenK (K : PySem.W.Frag) : List V → Hp → VK → Prop := fun xs H Q => ∃ p ys, xs = [.ref p] ∧ (SqL K H p ys ∨ SqT K H p ys) ∧ Q (.int ys.length) H
theorem klen (h : X.K = K := by rfl) : CallR X (.builtin "len") (rLenK K) := by subst h; exact call_len_seq
end
theorem hu1 {k : Nat} {A : Around} (hr : Room k A) : A.units + 1 < cLine := by have := hr.units; omega
section
variable {X : Cx}
theorem kdin {d : Addr} (h : ∃ es n, KDict X.K X.w d es n) : OpR X (compareOp .In) (fun x y H Q => ∃ (z : Str) (r : Option Value), x = .str z ∧ y = .ref d ∧ PySem.W.nsIn X.K d z = some r ∧ Q (.bl r.isSome) H) := by
  obtain ⟨es, n, D⟩ := h
  exact op_in_kd D
theorem kdnin {d : Addr} (h : ∃ es n, KDict X.K X.w d es n) : OpR X (compareOp .NotIn) (fun x y H Q => ∃ (z : Str) (r : Option Value), x = .str z ∧ y = .ref d ∧ PySem.W.nsIn X.K d z = some r ∧ Q (.bl (!r.isSome)) H) := by
  obtain ⟨es, n, D⟩ := h
  exact op_notIn_kd D
end

/-! ### defs that raise own exceptions -/
theorem kit_own {K : PySem.W.Frag} {B C : Addr} (h1 : PySem.W.subIn K (.ref C) (.type "BaseException") = some true) (h2 : PySem.W.typeIn K (.ref C) = some (.type "type")) (h3 : PySem.W.subIn K (.ref B) (.ref C) = some true) : PySem.W.kitOne K (.ref B) (.ref C) = some true := by
  have h0 : (PySem.W.clsIn K C).isSome = true := by
    have h1 : PySem.W.mroIn K C (.type "BaseException") = some true := h1
    unfold PySem.W.mroIn at h1
    cases e : PySem.W.clsIn K C with
    | some _ => rfl
    | none => rw [e] at h1; cases h1
  unfold PySem.W.kitOne
  split
  · rfl
  · show (if ((PySem.W.clsIn K C).isSome && PySem.W.typeIn K (.ref C) == some (.type "type")) = true then PySem.W.subIn K (.ref B) (.ref C) else none) = some true
    rw [h0, h2, h3]
    rfl
section
variable {X : Cx}
/-- C() of an own exception class without an __init__ of its own -/
theorem pmk_own0 {x : Str} {C : Addr} {bmB : List Value} {B newId initId : String} {p pos : Pos} (F : ExcBaseFacts B newId initId bmB) (q : PySem.W.excIn X.K C bmB newId = true) (gC : X.mg x = some (.ref C)) (kC : PySem.W.keepIn X.K (.ref C) = true) (r : Raises X (.ref C)) (hg : Gl X x)
    (hdb : (x == ("__debug__" : Str)) = false := by decide) : PMk X (.Call (.Name x p) [] [] pos) (fun _ H Q => Q (.ref C) none H) := by
  intro pins s σ H Q I h
  refine wpAny_Call_Name_kw (ld_glob I hg gC ?_ hdb)
  refine PySem.W.callWith_K0 I.kIn kC ?_
  show wpAny _ _ (call (.ref C) []) _ _ _
  obtain ⟨bm, N, nm, qn, bs, hdct, sn, sub, ab, col, dd, k0, k1, k2, k3, k5, mN, hC, hN, hni, T⟩ := exc_obj I.kIn q
  refine wpAny_call_exc_subT F T hC hN hni (fun h' e hm => ?_) (Nat.zero_le _)
  exact mk_of I hm r h (I.hok.gone hm.new)
end
/-- an own exception class over ValueError -/
structure ExOk (K : PySem.W.Frag) (mg : Str → Option Value) (x : Str) (C : Addr) : Prop where
  ex : PySem.W.excIn K C [.type "ValueError", .type "Exception", .type "BaseException", .type "object"] "ValueError.__new__" = true
  g : mg x = some (.ref C)
  kp : PySem.W.keepIn K (.ref C) = true
  bp : PySem.W.subIn K (.ref C) (.type "BaseException") = some true
  tp : PySem.W.typeIn K (.ref C) = some (.type "type")
  hd : PySem.W.hasDictIn K C = true
theorem ExOk.exm {K : PySem.W.Frag} {mg : Str → Option Value} {x : Str} {C : Addr} {cls : Value} {b : Bool} (e : ExOk K mg x C) (h : PySem.W.subIn K cls (.ref C) = some b) : PySem.W.exmOne K cls (.ref C) = some b := PySem.W.exm_ref e.bp e.hd e.tp h
theorem pmk_ok {X : Cx} {x : Str} {C : Addr} {p pos : Pos} (e : ExOk X.K X.mg x C) (hg : Gl X x) (hdb : (x == ("__debug__" : Str)) = false := by decide) : PMk X (.Call (.Name x p) [] [] pos) (fun _ H Q => Q (.ref C) none H) :=
  pmk_own0 PySem.F.excBase_ValueError e.ex e.g e.kp (raises_own e.bp e.tp) hg hdb
/-! the promises of such defs -/
structure CalX (P : Program) (w : World) (K : PySem.W.Frag) (mg : Str → Option Value) (base : Heap) (k : Nat) (x : Str) (sp : Sp) : Prop where
  ex : ∃ (f : Addr) (fd : FuncData) (ps : List Str), FnOk P w K mg base (L2.CX P w) k f fd ps sp ∧ mg x = some (.ref f) ∧ PySem.W.keepIn K (.ref f) = true ∧ Binds K fd ps []
structure MetX (P : Program) (w : World) (K : PySem.W.Frag) (mg : Str → Option Value) (base : Heap) (k : Nat) (C : Addr) (m : Str) (sp : Sp) : Prop where
  ex : ∃ (f : Addr) (fd : FuncData) (ps : List Str), Cls K C ∧ Meth K C m f ∧ FnOk P w K mg base (L2.CX P w) k f fd ps sp ∧ Binds K fd ps []
structure MakX (P : Program) (w : World) (K : PySem.W.Frag) (mg : Str → Option Value) (base : Heap) (k : Nat) (x : Str) (C : Addr) (sp : Sp) : Prop where
  ex : ∃ (f : Addr) (fd : FuncData) (ps : List Str), Mk K C f ∧ FnOk P w K mg base (L2.CX P w) k f fd ps sp ∧ mg x = some (.ref C) ∧ Binds K fd ps []
section
variable {P : Program} {w : World} {K : PySem.W.Frag} {mg : Str → Option Value} {base : Heap}
theorem calX {x : Str} {st : Stmt} {N ps : List Str} {k : Nat} {sp : Sp} (D : DefOk K mg x st ps) (S : FnScope N ps (defScope st)) (len : ∀ vs H Q E, sp vs H Q E → vs.length = ps.length)
    (hbody : ∀ (f : Addr) (cdv : Value) (A : Around) (outer : List Env) (s : Shared) (H : Hp) (vs : List V) (Q : VK) (E : XK), Room k (A.deeper (envOfC x (defScope st) s.heap.objs.size f cdv)) → sp vs H Q E →
      ∃ t, PSs (cxOf (L2.CX P w) P w K mg base N x (defScope st) f cdv A outer s H E) (defBody st) t ∧ t { nx := fun _ H' => Q .non H', rt := Q } (start N vs) H) : CalX P w K mg base (k + 1) x sp := by
  obtain ⟨f, fd, F, hm, b⟩ := D.ex
  exact ⟨f, fd, ps, F.okX S len (fun cdv A outer s H vs Q E hr h => hbody f cdv A outer s H vs Q E hr h), hm, F.kp, b⟩
theorem metX {C : Addr} {m qual : Str} {st : Stmt} {N ps : List Str} {k : Nat} {sp : Sp} (c : Cls K C) (D : MethOk K C m qual st ps) (S : FnScope N ps (defScope st)) (len : ∀ vs H Q E, sp vs H Q E → vs.length = ps.length)
    (hbody : ∀ (f : Addr) (cdv : Value) (A : Around) (outer : List Env) (s : Shared) (H : Hp) (vs : List V) (Q : VK) (E : XK), Room k (A.deeper (envOfC qual (defScope st) s.heap.objs.size f cdv)) → sp vs H Q E →
      ∃ t, PSs (cxOf (L2.CX P w) P w K mg base N qual (defScope st) f cdv A outer s H E) (defBody st) t ∧ t { nx := fun _ H' => Q .non H', rt := Q } (start N vs) H) : MetX P w K mg base (k + 1) C m sp := by
  obtain ⟨f, fd, M, F, b⟩ := D.ex
  exact ⟨f, fd, ps, c, M, F.okX S len (fun cdv A outer s H vs Q E hr h => hbody f cdv A outer s H vs Q E hr h), b⟩
theorem makX {C : Addr} {x qual : Str} {st : Stmt} {N ps : List Str} {k : Nat} {sp : Sp} (hm : mg x = some (.ref C)) (D : MakOk K C qual st ps) (S : FnScope N ps (defScope st)) (len : ∀ vs H Q E, sp vs H Q E → vs.length = ps.length)
    (hbody : ∀ (f : Addr) (cdv : Value) (A : Around) (outer : List Env) (s : Shared) (H : Hp) (vs : List V) (Q : VK) (E : XK), Room k (A.deeper (envOfC qual (defScope st) s.heap.objs.size f cdv)) → sp vs H Q E →
      ∃ t, PSs (cxOf (L2.CX P w) P w K mg base N qual (defScope st) f cdv A outer s H E) (defBody st) t ∧ t { nx := fun _ H' => Q .non H', rt := Q } (start N vs) H) : MakX P w K mg base (k + 1) x C sp := by
  obtain ⟨f, fd, M, F, b⟩ := D.ex
  exact ⟨f, fd, ps, M, F.okX S len (fun cdv A outer s H vs Q E hr h => hbody f cdv A outer s H vs Q E hr h), hm, b⟩
end
/-! their calls: E tells at the slots what is wished of an error -/
section
variable {X : Cx} {k j : Nat} {C : Addr} {x m : Str} {sp : Sp} {p pos apos : Pos} {e o : Expr} {es : List Expr} {ta : TE} {t : TA} {E : L2.St → XK}
theorem pe_cX (c : CalX X.prog X.w X.K X.mg X.base k x sp) (hr : Room j X.A) (hk : k ≤ j) (hg : Gl X x) (hx : ∀ σ, PassesAt (L2.CX X.prog X.w) X σ (E σ)) (ha : PA X (e :: es) t)
    (hdb : (x == ("__debug__" : Str)) = false := by decide) (he : starEach (e :: es) X.env = (false, eval e X.env) :: starEach es X.env := by rfl) (hpl : (backTo pos (starEach es X.env)).any (·.1) = false := by rfl) :
    PE X (.Call (.Name x p) (e :: es) [] pos) (tCallS sp E t) := by
  obtain ⟨f, fd, ps, F, hm, kp, b⟩ := c.ex
  exact pe_callS F (hr.mono hk) hg hm kp b hx ha hdb he hpl
/-- where nothing is raised -/
theorem pe_cXn (c : CalX X.prog X.w X.K X.mg X.base k x sp) (hr : Room j X.A) (hk : k ≤ j) (hg : Gl X x) (ha : PA X (e :: es) t)
    (hdb : (x == ("__debug__" : Str)) = false := by decide) (he : starEach (e :: es) X.env = (false, eval e X.env) :: starEach es X.env := by rfl) (hpl : (backTo pos (starEach es X.env)).any (·.1) = false := by rfl) :
    PE X (.Call (.Name x p) (e :: es) [] pos) (tCall sp [] L2.E0 t) := by
  obtain ⟨f, fd, ps, F, hm, kp, b⟩ := c.ex
  exact pe_call F (hr.mono hk) hg hm kp b .nil passL ha hdb he hpl
def tMethX (C : Addr) (m : Str) (sp : Sp) (E : L2.St → XK) (ta : TE) (t : TA) : TE := fun σ H Q => ta σ H fun x H1 => ∃ a dx fs, x = .ref a ∧ H1 a = some (.ins C dx fs) ∧ fs.lookup m = none ∧ t σ H1 fun vs H2 => sp (.ref a :: vs) H2 Q (E σ)
theorem pe_mtX {pl : Sem Bool} (c : MetX X.prog X.w X.K X.mg X.base k C m sp) (hr : Room j X.A) (hk : k ≤ j) (hx : ∀ σ, PassesAt (L2.CX X.prog X.w) X σ (E σ)) (he : PE X o ta) (ha : PA X (e :: es) t)
    (hst : starEach (e :: es) X.env = (false, eval e X.env) :: starEach es X.env := by rfl) (hpl : (backTo pos (starEach es X.env)).any (·.1) = false := by rfl)
    (ht : eval (.Call (.Attribute o m apos) (e :: es) [] pos) X.env = (do
      let ov ← eval o X.env
      standAt apos.atName
      let (f, first) ← holding [ov] (getMethod ov m pl)
      callWith pos f first (backTo pos (starEach (e :: es) X.env)) (backToKw pos (keywordEach [] X.env))) := by rfl) :
    PE X (.Call (.Attribute o m apos) (e :: es) [] pos) (tMethX C m sp E ta t) := by
  obtain ⟨f, fd, ps, hc, hm, F, b⟩ := c.ex
  refine ⟨fun pins s σ H Q I h => ?_⟩
  refine PySem.W.methodCall_KW (pl := pl) (thn (he.run pins s σ H _ I h) fun u s1 ⟨x, H1, I1, rx, a, dx, fs, ex, ea, l, q⟩ => ?_) ht
  subst ex
  obtain rfl : u = Value.ref a := rx
  refine getmeth_ok I1 ea hc hm l ?_
  refine PySem.W.callWith_K (first := [.ref a]) (h₀ := X.base) I.ok.mod.kin hm.kp (thn (ha.run pos pins s1 σ H1 _ I1 q) fun us s2 ⟨vs, H2, I2, r, q2⟩ => ⟨I2.kIn, ?_⟩) hst hpl
  exact run_fnS (us := .ref a :: us) (vs := .ref a :: vs) F (hr.mono hk) b (hx σ) I2 (.cons rfl r) q2
theorem pe_mtX0 {pl : Sem Bool} (c : MetX X.prog X.w X.K X.mg X.base k C m sp) (hr : Room j X.A) (hk : k ≤ j) (hx : ∀ σ, PassesAt (L2.CX X.prog X.w) X σ (E σ)) (he : PE X o ta)
    (ht : eval (.Call (.Attribute o m apos) [] [] pos) X.env = (do
      let ov ← eval o X.env
      standAt apos.atName
      let (f, first) ← holding [ov] (getMethod ov m pl)
      callWith pos f first (backTo pos (starEach [] X.env)) (backToKw pos (keywordEach [] X.env))) := by rfl) :
    PE X (.Call (.Attribute o m apos) [] [] pos) (tMethX C m sp E ta tNil) := by
  obtain ⟨f, fd, ps, hc, hm, F, b⟩ := c.ex
  refine ⟨fun pins s σ H Q I h => ?_⟩
  refine PySem.W.methodCall_KW (pl := pl) (thn (he.run pins s σ H _ I h) fun u s1 ⟨x, H1, I1, rx, a, dx, fs, ex, ea, l, q⟩ => ?_) ht
  subst ex
  obtain rfl : u = Value.ref a := rx
  refine getmeth_ok I1 ea hc hm l ?_
  exact PySem.W.callWith_K0 (first := [.ref a]) I1.kIn hm.kp (run_fnS (us := [.ref a]) (vs := [.ref a]) F (hr.mono hk) b (hx σ) I1 (.cons rfl .nil) q)
def tMakeX (C : Addr) (sp : Sp) (E : L2.St → XK) (t : TA) : TE := fun σ H Q => t σ H fun vs H1 => ∀ x dx, H1 x = none → H1 dx = none → dx ≠ x → sp (.ref x :: vs) (upd (upd H1 dx (.own x)) x (.ins C dx [])) (fun v H2 => v = .non ∧ Q (.ref x) H2) (E σ)
theorem run_makeX {CX : CXT} {f : Addr} {fd : FuncData} {ps : List Str} {pins : List (Addr × Obj)} {σ : L2.St} {H : Hp} {s : Shared} {Q : VK} {us : List Value} {vs : List V} {Eσ : XK} (M : Mk X.K C f) (F : FnOk X.prog X.w X.K X.mg X.base CX k f fd ps sp) (hr : Room (k + 1) X.A) (hb : Binds X.K fd ps [])
    (hx : PassesAt CX X σ Eσ) (I : Inv X pins σ H s) (r : Vals vs us)
    (h : ∀ x dx, H x = none → H dx = none → dx ≠ x → sp (.ref x :: vs) (upd (upd H dx (.own x)) x (.ins C dx [])) (fun v H2 => v = .non ∧ Q (.ref x) H2) Eσ) :
    wpAny (model X.prog X.w) X.A (call (.ref C) us) (EP X pins σ Q) X.xe s := by
  have hq := h (s.heap.objs.size + 1) s.heap.objs.size (I.hok.fresh (Nat.le_succ _)) (I.hok.fresh (Nat.le_refl _)) (Nat.ne_of_lt (Nat.lt_succ_self _))
  have I2 := Inv.made (C := C) I
  have r2 : Vals (V.ref (s.heap.objs.size + 1) :: vs) (Value.ref (s.heap.objs.size + 1) :: us) := .cons rfl r
  have hl : (Value.ref (s.heap.objs.size + 1) :: us ++ ([] : List Value)).length = ps.length := by
    have e := r2.length
    rw [F.len _ _ _ _ hq] at e
    rw [List.append_nil]
    exact e.symm
  have hb' := hb _ (Value.ref (s.heap.objs.size + 1) :: us) I2.kIn hl
  rw [List.append_nil] at hb'
  refine wpAny_call (make_map (f := f) I.kIn M.makes M.init (beq_iff_eq.mp M.fn) (codeAny_mono (F.run _ X.stack _ _ ⟨Value.ref (s.heap.objs.size + 1) :: us, []⟩ (Value.ref (s.heap.objs.size + 1) :: us) _ _ Eσ (hr.make C us [])
    (I2.env0.make C us []) hb' r2 hq) fun r s' hq' => ?_))
  cases r with
  | error e => exact hx pins _ _ e s' I2 hq'
  | ok fl =>
    cases fl with
    | ret u =>
      obtain ⟨v, H', I3, rv, ev, q3⟩ := I2.after hq'
      subst ev
      exact ⟨rv, ⟨V.ref (s.heap.objs.size + 1), H', I3, rfl, q3⟩⟩
    | next => exact False.elim hq'
    | brk => exact False.elim hq'
    | cont => exact False.elim hq'
theorem pe_mkX (c : MakX X.prog X.w X.K X.mg X.base k x C sp) (hr : Room j X.A) (hk : k + 1 ≤ j) (hg : Gl X x) (hx : ∀ σ, PassesAt (L2.CX X.prog X.w) X σ (E σ)) (ha : PA X (e :: es) t)
    (hdb : (x == ("__debug__" : Str)) = false := by decide) (he : starEach (e :: es) X.env = (false, eval e X.env) :: starEach es X.env := by rfl) (hpl : (backTo pos (starEach es X.env)).any (·.1) = false := by rfl) :
    PE X (.Call (.Name x p) (e :: es) [] pos) (tMakeX C sp E t) := by
  obtain ⟨f, fd, ps, M, F, hm, b⟩ := c.ex
  refine ⟨fun pins s σ H Q I h => ?_⟩
  refine wpAny_Call_Name_kw (ld_glob I hg hm ?_ hdb)
  refine PySem.W.callWith_K (h₀ := X.base) I.ok.mod.kin M.kp (thn (ha.run pos pins s σ H _ I h) fun us s1 ⟨vs, H1, I1, r, q⟩ => ⟨I1.kIn, ?_⟩) he hpl
  exact run_makeX M F (hr.mono hk) b (hx σ) I1 r q
/-- where nothing is let out: for the calls above in a def without errors -/
theorem no_pass : ∀ σ : L2.St, PassesAt (L2.CX X.prog X.w) X σ ((fun _ => L2.E0) σ) := fun σ pins H s e s' I c => passL pins σ H s e s' I c
end

def topS (i : Nat) : Stmt := PySem.Challenge.pw_oathledger_k34_ballot_remembers.main.body.getD i (.Pass ⟨0, 0, 0, 0⟩)
abbrev s_Ballot____init__ : Stmt := inClass (topS 4) 0
theorem sc_Ballot____init__ : FnScope ["self", "blocks", "block"] ["self", "blocks"] (defScope s_Ballot____init__) := ⟨rfl, rfl, rfl, by decide +kernel, rfl, by decide +kernel, by decide +kernel⟩
abbrev s_Ballot__last : Stmt := inClass (topS 4) 1
theorem sc_Ballot__last : FnScope ["self"] ["self"] (defScope s_Ballot__last) := ⟨rfl, rfl, rfl, by decide +kernel, rfl, by decide +kernel, by decide +kernel⟩
abbrev s_Ballot__floor : Stmt := inClass (topS 4) 2
theorem sc_Ballot__floor : FnScope ["self"] ["self"] (defScope s_Ballot__floor) := ⟨rfl, rfl, rfl, by decide +kernel, rfl, by decide +kernel, by decide +kernel⟩
abbrev s_Ballot__restore : Stmt := inClass (topS 4) 3
theorem sc_Ballot__restore : FnScope ["self", "epoch", "floor"] ["self", "epoch", "floor"] (defScope s_Ballot__restore) := ⟨rfl, rfl, rfl, by decide +kernel, rfl, by decide +kernel, by decide +kernel⟩
abbrev s_Ballot__record : Stmt := inClass (topS 4) 4
theorem sc_Ballot__record : FnScope ["self", "block"] ["self", "block"] (defScope s_Ballot__record) := ⟨rfl, rfl, rfl, by decide +kernel, rfl, by decide +kernel, by decide +kernel⟩
abbrev s_Ballot__blocks : Stmt := inClass (topS 4) 5
theorem sc_Ballot__blocks : FnScope ["self"] ["self"] (defScope s_Ballot__blocks) := ⟨rfl, rfl, rfl, by decide +kernel, rfl, by decide +kernel, by decide +kernel⟩
abbrev s__law_cell : Stmt := topS 6
theorem sc__law_cell : FnScope ["script", "k"] ["script", "k"] (defScope s__law_cell) := ⟨rfl, rfl, rfl, by decide +kernel, rfl, by decide +kernel, by decide +kernel⟩
abbrev s__law_draws : Stmt := topS 7
theorem sc__law_draws : FnScope ["script", "start", "most", "draws", "cell", "number", "mixed", "k"] ["script", "start", "most"] (defScope s__law_draws) := ⟨rfl, rfl, rfl, by decide +kernel, rfl, by decide +kernel, by decide +kernel⟩
abbrev s__law_block : Stmt := topS 8
theorem sc__law_block : FnScope ["draw", "epoch", "parent"] ["draw", "epoch"] (defScope s__law_block) := ⟨rfl, rfl, rfl, by decide +kernel, rfl, by decide +kernel, by decide +kernel⟩
abbrev s__law_recorded : Stmt := topS 9
theorem sc__law_recorded : FnScope ["ballot", "block"] ["ballot", "block"] (defScope s__law_recorded) := ⟨rfl, rfl, rfl, by decide +kernel, rfl, by decide +kernel, by decide +kernel⟩
abbrev s_law : Stmt := topS 10
theorem sc_law : FnScope ["script", "draws", "epoch", "given", "first", "draw", "copy", "ballot", "floor", "block", "fine", "told"] ["script"] (defScope s_law) := ⟨rfl, rfl, rfl, by decide +kernel, rfl, by decide +kernel, by decide +kernel⟩
structure Txt (K : PySem.W.Frag) (mg : Str → Option Value) (C_Ballot : Addr) (C_BadBlock : Addr) : Prop where
  d__law_cell : DefOk K mg "_law_cell" s__law_cell ["script", "k"]
  d__law_draws : DefOk K mg "_law_draws" s__law_draws ["script", "start", "most"]
  d__law_block : DefOk K mg "_law_block" s__law_block ["draw", "epoch"]
  d__law_recorded : DefOk K mg "_law_recorded" s__law_recorded ["ballot", "block"]
  d_law : DefOk K mg "law" s_law ["script"]
  cl_Ballot : Cls K C_Ballot
  g_Ballot : mg "Ballot" = some (.ref C_Ballot)
  na_Ballot__blocks : NoAttr K C_Ballot "_blocks"
  na_Ballot__last : NoAttr K C_Ballot "_last"
  na_Ballot__floor : NoAttr K C_Ballot "_floor"
  mk_Ballot : MakOk K C_Ballot "Ballot.__init__" s_Ballot____init__ ["self", "blocks"]
  me_Ballot__last : MethOk K C_Ballot "last" "Ballot.last" s_Ballot__last ["self"]
  me_Ballot__floor : MethOk K C_Ballot "floor" "Ballot.floor" s_Ballot__floor ["self"]
  me_Ballot__restore : MethOk K C_Ballot "restore" "Ballot.restore" s_Ballot__restore ["self", "epoch", "floor"]
  me_Ballot__record : MethOk K C_Ballot "record" "Ballot.record" s_Ballot__record ["self", "block"]
  me_Ballot__blocks : MethOk K C_Ballot "blocks" "Ballot.blocks" s_Ballot__blocks ["self"]
  x_BadBlock : ExOk K mg "BadBlock" C_BadBlock
  u_BadBlock_BadBlock : PySem.W.subIn K (.ref C_BadBlock) (.ref C_BadBlock) = some true
  z_abs : mg "abs" = none
  z_int : mg "int" = none
  z_isinstance : mg "isinstance" = none
  z_len : mg "len" = none
  z_list : mg "list" = none
  z_max : mg "max" = none
  z_min : mg "min" = none
  z_range : mg "range" = none
set_option pp.maxSteps 150
/-! ### the draws of a script -/
def Dr (H : Hp) (D A : Addr) : Prop := D ≠ A ∧ ∃ (ds : List Int) (n : Nat), H D = some (.lst (ds.map V.int)) ∧ H A = some (.lst [.int n]) ∧ (∀ d ∈ ds, 0 ≤ d ∧ d < 1000) ∧ ds.length ≤ 2520
/-- all that was tracked but A is as it was -/
def Mod (A : Addr) (H H' : Hp) : Prop := ∀ b o, b ≠ A → H b = some o → H' b = some o
theorem Mod.refl {A : Addr} {H : Hp} : Mod A H H := fun _ _ _ h => h
theorem Mod.trans {A : Addr} {H H1 H2 : Hp} (a : Mod A H H1) (b : Mod A H1 H2) : Mod A H H2 := fun c o n h => b c o n (a c o n h)
theorem Same.mod {A : Addr} {H H' : Hp} (s : Same H H') : Mod A H H' := fun b o _ h => s b o h
theorem Mod.new {A p : Addr} {o : HO} {H H' : Hp} (s : Mod A H H') (h : H' p = none) : Mod A H (upd H' p o) := fun b u n e => by
  rw [upd_ne (ne_of_none (s b u n e) h)]
  exact s b u n e
theorem Dr.new {D A p : Addr} {o : HO} {H : Hp} (d : Dr H D A) (h : H p = none) : Dr (upd H p o) D A := by
  obtain ⟨ne, ds, n, h1, h2, h3⟩ := d
  exact ⟨ne, ds, n, by rw [upd_ne (ne_of_none h1 h)]; exact h1, by rw [upd_ne (ne_of_none h2 h)]; exact h2, h3⟩
theorem Dr.same {D A : Addr} {H H' : Hp} (d : Dr H D A) (s : Same H H') : Dr H' D A := by
  obtain ⟨ne, ds, n, h1, h2, h3⟩ := d
  exact ⟨ne, ds, n, s _ _ h1, s _ _ h2, h3⟩
/-- an object that is neither D nor A is changed -/
theorem Dr.put {D A p : Addr} {o : HO} {H : Hp} (d : Dr H D A) (h1 : p ≠ D) (h2 : p ≠ A) : Dr (upd H p o) D A := by
  obtain ⟨ne, ds, n, e1, e2, h3⟩ := d
  exact ⟨ne, ds, n, by rw [upd_ne h1.symm]; exact e1, by rw [upd_ne h2.symm]; exact e2, h3⟩
theorem Dr.freshA {D A p : Addr} {H : Hp} (d : Dr H D A) (h : H p = none) : p ≠ A := by
  obtain ⟨_, _, _, _, e, _⟩ := d
  exact (ne_of_none e h).symm
theorem Dr.freshD {D A p : Addr} {H : Hp} (d : Dr H D A) (h : H p = none) : p ≠ D := by
  obtain ⟨_, _, _, e, _⟩ := d
  exact (ne_of_none e h).symm
theorem Mod.free {A p : Addr} {H H' : Hp} (s : Mod A H H') (d : ∃ o, H' A = some o) (h : H' p = none) : H p = none := by
  cases e : H p with
  | none => rfl
  | some o =>
    by_cases hp : p = A
    · subst hp
      obtain ⟨o', e'⟩ := d
      rw [e'] at h; cases h
    · rw [s p o hp e] at h; cases h
theorem Dr.A_in {D A : Addr} {H : Hp} (d : Dr H D A) : ∃ o, H A = some o := by
  obtain ⟨_, _, _, _, e, _⟩ := d
  exact ⟨_, e⟩
theorem rng_app {ds : List Int} {x : Int} (h : ∀ d ∈ ds, 0 ≤ d ∧ d < 1000) (h0 : 0 ≤ x) (h1 : x < 1000) : ∀ d ∈ ds ++ [x], 0 ≤ d ∧ d < 1000 := fun d hd => by
  rcases List.mem_append.mp hd with hd | hd
  · exact h d hd
  · rw [List.mem_singleton.mp hd]; exact ⟨h0, h1⟩

/-! ### drawn numbers and strings -/
def prC (c : Nat) : Bool := decide (32 ≤ c) && decide (c ≤ 126) && decide (c ≠ 37)
def isPr (z : Str) : Bool := z.cps.toList.all prC
theorem app_tl (a b : Str) : (a ++ b).cps.toList = a.cps.toList ++ b.cps.toList := by
  show (a.cps ++ b.cps).toList = _
  rw [Array.toList_append]
theorem len_tl (z : Str) : z.cps.toList.length = z.length := Array.length_toList
theorem isPr_app (a b : Str) : isPr (a ++ b) = (isPr a && isPr b) := by
  unfold isPr
  rw [app_tl, List.all_append]

/-! ### values as data: what stands at them does not change -/
def TupAt (K : PySem.W.Frag) (H : Hp) (a : Addr) (xs : List V) : Prop := H a = some (.tup xs) ∨ KTup K a xs
section
variable {K : PySem.W.Frag}
theorem TupAt.sq {H : Hp} {a : Addr} {xs : List V} (h : TupAt K H a xs) : SqT K H a xs := h.elim SqT.of .inr
theorem TupAt.ty {H : Hp} {a : Addr} {xs : List V} (h : TupAt K H a xs) : TyX K H (.ref a) (.type "tuple") := h.elim (fun h => .base (.tup h)) (fun ⟨_, _, _, h1, h2, _⟩ => .kTuple h1 h2)
theorem TupAt.same {H H' : Hp} {a : Addr} {xs : List V} (h : TupAt K H a xs) (s : Same H H') : TupAt K H' a xs := h.imp (s _ _) id
/-- none of those at A (none: no matter) -/
def NeA (A : Option Addr) (a : Addr) : Prop := match A with | some b => a ≠ b | none => True
mutual
/-- v is the data d; the lists in it are none of those at A -/
inductive Dt (K : PySem.W.Frag) (H : Hp) (A : Option Addr) : V → PyData → Prop
  | non : Dt K H A .non .none
  | bl (b : Bool) : Dt K H A (.bl b) (.bool b)
  | int (i : Int) : Dt K H A (.int i) (.int i)
  | str (z : Str) (h : z.length ≤ 1000000) : Dt K H A (.str z) (.str z)
  | lst {a : Addr} {xs : List V} {ds : List PyData} : NeA A a → H a = some (.lst xs) → DtAll K H A xs ds → Dt K H A (.ref a) (.list ds)
  | tup {a : Addr} {xs : List V} {ds : List PyData} : TupAt K H a xs → DtAll K H A xs ds → Dt K H A (.ref a) (.tuple ds)
inductive DtAll (K : PySem.W.Frag) (H : Hp) (A : Option Addr) : List V → List PyData → Prop
  | nil : DtAll K H A [] []
  | cons {v : V} {vs : List V} {d : PyData} {ds : List PyData} : Dt K H A v d → DtAll K H A vs ds → DtAll K H A (v :: vs) (d :: ds)
end
theorem DtAll.length {H : Hp} {A : Option Addr} : ∀ {xs : List V} {ds : List PyData}, DtAll K H A xs ds → xs.length = ds.length
  | _, _, .nil => rfl
  | _, _, .cons _ r => by rw [List.length_cons, List.length_cons, r.length]
theorem DtAll.get {H : Hp} {A : Option Addr} : ∀ {xs : List V} {ds : List PyData} {i : Nat} {x : V}, DtAll K H A xs ds → xs[i]? = some x → ∃ d, ds[i]? = some d ∧ Dt K H A x d
  | _, _, _, _, .nil, e => by simp at e
  | _, _, 0, x, .cons h _, e => by simp at e; subst e; exact ⟨_, rfl, h⟩
  | _, _, i + 1, x, .cons _ r, e => by
    obtain ⟨d, h1, h2⟩ := r.get (i := i) (x := x) (by simpa using e)
    exact ⟨d, by simpa using h1, h2⟩
theorem DtAll.getD {H : Hp} {A : Option Addr} {xs : List V} {ds : List PyData} {i : Nat} {d : PyData} (h : DtAll K H A xs ds) (e : ds[i]? = some d) : ∃ x, xs[i]? = some x ∧ Dt K H A x d := by
  have hi : i < ds.length := (List.getElem?_eq_some_iff.mp e).1
  have hi' : i < xs.length := by rw [h.length]; exact hi
  obtain ⟨d', h1, h2⟩ := h.get (List.getElem?_eq_getElem hi')
  rw [e] at h1
  cases h1
  exact ⟨_, List.getElem?_eq_getElem hi', h2⟩
mutual
theorem Dt.mod {H H' : Hp} {A D : Addr} (s : Mod A H H') (dr : Dr H D A) : ∀ (d : PyData) (v : V), Dt K H (some A) v d → Dt K H' (some A) v d
  | .none, _, h => by cases h; exact .non
  | .bool b, _, h => by cases h; exact .bl b
  | .int i, _, h => by cases h; exact .int i
  | .str z, _, h => by cases h with | str _ hz => exact .str z hz
  | .list ds, _, h => by cases h with | lst hn ha hd => exact .lst hn (s _ _ hn ha) (DtAll.mod s dr ds _ hd)
  | .tuple ds, _, h => by
    cases h with
    | tup ha hd =>
      obtain ⟨_, _, _, _, e, _⟩ := id dr
      exact .tup (ha.imp (fun ha => s _ _ (ne_of ha e (by intro z; cases z)) ha) id) (DtAll.mod s dr ds _ hd)
  | .dict _, _, h => by cases h
theorem DtAll.mod {H H' : Hp} {A D : Addr} (s : Mod A H H') (dr : Dr H D A) : ∀ (ds : List PyData) (xs : List V), DtAll K H (some A) xs ds → DtAll K H' (some A) xs ds
  | [], _, h => by cases h; exact .nil
  | d :: ds, _, h => by cases h with | cons h1 h2 => exact .cons (Dt.mod s dr d _ h1) (DtAll.mod s dr ds _ h2)
end
mutual
theorem Dt.same {H H' : Hp} {A : Option Addr} (s : Same H H') : ∀ (d : PyData) (v : V), Dt K H A v d → Dt K H' A v d
  | .none, _, h => by cases h; exact .non
  | .bool b, _, h => by cases h; exact .bl b
  | .int i, _, h => by cases h; exact .int i
  | .str z, _, h => by cases h with | str _ hz => exact .str z hz
  | .list ds, _, h => by cases h with | lst hn ha hd => exact .lst hn (s _ _ ha) (DtAll.same s ds _ hd)
  | .tuple ds, _, h => by cases h with | tup ha hd => exact .tup (ha.same s) (DtAll.same s ds _ hd)
  | .dict _, _, h => by cases h
theorem DtAll.same {H H' : Hp} {A : Option Addr} (s : Same H H') : ∀ (ds : List PyData) (xs : List V), DtAll K H A xs ds → DtAll K H' A xs ds
  | [], _, h => by cases h; exact .nil
  | d :: ds, _, h => by cases h with | cons h1 h2 => exact .cons (Dt.same s d _ h1) (DtAll.same s ds _ h2)
end
mutual
/-- data for a comparison -/
theorem Dt.dp {H : Hp} {A : Option Addr} : ∀ (d : PyData) (v : V), Dt K H A v d → Dp K H v d
  | .none, _, h => by cases h; exact .non
  | .bool b, _, h => by cases h; exact .bl b
  | .int i, _, h => by cases h; exact .int i
  | .str z, _, h => by cases h; exact .str z
  | .list ds, _, h => by cases h with | lst hn ha hd => exact .lst (SqL.of ha) (DtAll.dp ds _ hd)
  | .tuple ds, _, h => by cases h with | tup ha hd => exact .tup ha.sq (DtAll.dp ds _ hd)
  | .dict _, _, h => by cases h
theorem DtAll.dp {H : Hp} {A : Option Addr} : ∀ (ds : List PyData) (xs : List V), DtAll K H A xs ds → DpAll K H xs ds
  | [], _, h => by cases h; exact .nil
  | d :: ds, _, h => by cases h with | cons h1 h2 => exact .cons (Dt.dp d _ h1) (DtAll.dp ds _ h2)
end
theorem Dt.on {H H' : Hp} {A : Option Addr} {v : V} {d : PyData} (h : Dt K H A v d) (s : Same H H') : Dt K H' A v d := Dt.same s d v h
theorem DtAll.on {H H' : Hp} {A : Option Addr} {xs : List V} {ds : List PyData} (h : DtAll K H A xs ds) (s : Same H H') : DtAll K H' A xs ds := DtAll.same s ds xs h
theorem Dt.by {H H' : Hp} {A D : Addr} {v : V} {d : PyData} (h : Dt K H (some A) v d) (s : Mod A H H') (dr : Dr H D A) : Dt K H' (some A) v d := Dt.mod s dr d v h
theorem DtAll.by {H H' : Hp} {A D : Addr} {xs : List V} {ds : List PyData} (h : DtAll K H (some A) xs ds) (s : Mod A H H') (dr : Dr H D A) : DtAll K H' (some A) xs ds := DtAll.mod s dr ds xs h
theorem Dt.two {H : Hp} {A : Option Addr} {v : V} {d : PyData} (h : Dt K H A v d) : (∃ a xs ds, v = .ref a ∧ d = .tuple ds ∧ TupAt K H a xs ∧ DtAll K H A xs ds) ∨ (∃ T, TyX K H v (.type T) ∧ kitB T "tuple" = some false ∧ ∀ ds, d ≠ .tuple ds) := by
  cases h with
  | tup ha hx => exact .inl ⟨_, _, _, rfl, rfl, ha, hx⟩
  | str z hz => exact .inr ⟨_, .base (.str z), by decide +kernel, fun _ z => nomatch z⟩
  | int i => exact .inr ⟨_, .base (.int i), by decide +kernel, fun _ z => nomatch z⟩
  | non => exact .inr ⟨_, .base .non, by decide +kernel, fun _ z => nomatch z⟩
  | bl b => exact .inr ⟨_, .base (.bl b), by decide +kernel, fun _ z => nomatch z⟩
  | lst _ ha _ => exact .inr ⟨_, .base (.lst ha), by decide +kernel, fun _ z => nomatch z⟩
/-- the kind of a value -/
def dTy : PyData → String
  | .none => "NoneType" | .bool _ => "bool" | .int _ => "int" | .str _ => "str" | .list _ => "list" | .tuple _ => "tuple" | .dict _ => "dict"
theorem Dt.ty {H : Hp} {A : Option Addr} {v : V} {d : PyData} (h : Dt K H A v d) : TyX K H v (.type (dTy d)) := by
  cases h with
  | non => exact .base .non
  | bl b => exact .base (.bl b)
  | int i => exact .base (.int i)
  | str z _ => exact .base (.str z)
  | lst _ ha _ => exact .base (.lst ha)
  | tup ha _ => exact ha.ty
/-! the predicates of the program, upon data -/
def dInt (lo hi : Int) : PyData → Bool
  | .int i => decide (lo ≤ i ∧ i ≤ hi)
  | _ => false
def dShort (m : Int) : PyData → Bool
  | .str z => isPr z && decide ((z.length : Int) ≤ m)
  | _ => false
def dCmd : PyData → Bool
  | .tuple [c, n, t] => dInt (-100) (-1) c && dInt 1 1000000000000 n && dShort 240 t
  | _ => false
def dClient : PyData → Int
  | .tuple (.int c :: _) => c
  | _ => 0
def dAfter : Option Int → PyData → Bool
  | some k, d => decide (k < dClient d)
  | none, _ => true
def befV : Option Int → V
  | some k => .int k
  | none => .non
def dCmdsFrom : Option Int → List PyData → Bool
  | _, [] => true
  | b, d :: r => dCmd d && dAfter b d && dCmdsFrom (some (dClient d)) r
theorem dCmdsFrom_cons (b : Option Int) (d : PyData) (r : List PyData) : dCmdsFrom b (d :: r) = (dCmd d && dAfter b d && dCmdsFrom (some (dClient d)) r) := by cases b <;> rfl
theorem dCmdsFrom_nil (b : Option Int) : dCmdsFrom b [] = true := by cases b <;> rfl
def dCmds : PyData → Bool
  | .tuple ds => dCmdsFrom none ds
  | _ => false
def dHeight (parent : Int) (h : PyData) : Bool := if parent = 0 then dInt 1 1 h else dInt 2 (parent + 1) h
def dBlock4 (e p h cs : PyData) : Bool := match e, p with
  | .int e, .int p => dInt 1 1000000000000 (.int e) && dInt 0 (e - 1) (.int p) && dHeight p h && dCmds cs
  | _, _ => false
def dBlock : PyData → Bool
  | .tuple [e, p, h, cs] => dBlock4 e p h cs
  | _ => false
def dEmpty : PyData → Bool
  | .tuple [] => true
  | _ => false
def dGen : PyData → Bool
  | .tuple [e, p, h, cs] => dInt 0 0 e && dInt 0 0 p && dInt 0 0 h && dEmpty cs
  | _ => false
theorem DtAll.four {H : Hp} {A : Option Addr} {xs : List V} {ds : List PyData} (h : DtAll K H A xs ds) (hl : xs.length = 4) :
    ∃ x1 x2 x3 x4 d1 d2 d3 d4, xs = [x1, x2, x3, x4] ∧ ds = [d1, d2, d3, d4] ∧ Dt K H A x1 d1 ∧ Dt K H A x2 d2 ∧ Dt K H A x3 d3 ∧ Dt K H A x4 d4 := by
  match xs, ds, h with
  | [_, _, _, _], _, .cons h1 (.cons h2 (.cons h3 (.cons h4 .nil))) => exact ⟨_, _, _, _, _, _, _, _, rfl, rfl, h1, h2, h3, h4⟩
theorem dBlock4_e1 {e p h cs : PyData} (z : dInt 1 1000000000000 e = false) : dBlock4 e p h cs = false := by
  unfold dBlock4
  split
  · rw [z]; rfl
  · rfl
theorem dBlock4_e2 {e : Int} {p h cs : PyData} (z : dInt 0 (e - 1) p = false) : dBlock4 (.int e) p h cs = false := by
  unfold dBlock4
  split
  · rename_i h1
    cases h1
    rw [z, Bool.and_false]; rfl
  · rfl
/-- a predicate of one value, kept by growing heaps -/
def spPred (K : PySem.W.Frag) (A : Option Addr) (f : PyData → Bool) : Sp := fun vs H Q _ => ∃ (v : V) (d : PyData), vs = [v] ∧ Dt K H A v d ∧ ∀ H', Same H H' → Q (.bl (f d)) H'
def spIntD (K : PySem.W.Frag) (A : Option Addr) : Sp := fun vs H Q _ => ∃ (v : V) (d : PyData) (lo hi : Int), vs = [v, .int lo, .int hi] ∧ Dt K H A v d ∧ Q (.bl (dInt lo hi d)) H
def spShortD (K : PySem.W.Frag) (A : Option Addr) : Sp := fun vs H Q _ => ∃ (v : V) (d : PyData) (m : Int), vs = [v, .int m] ∧ Dt K H A v d ∧ ∀ H', Same H H' → Q (.bl (dShort m d)) H'
theorem dInt_inv {lo hi : Int} {d : PyData} (h : dInt lo hi d = true) : ∃ i, d = .int i ∧ lo ≤ i ∧ i ≤ hi := by
  cases d with
  | int i =>
    have h : decide (lo ≤ i ∧ i ≤ hi) = true := h
    exact ⟨i, rfl, (of_decide_eq_true h).1, (of_decide_eq_true h).2⟩
  | none => cases h
  | bool b => cases h
  | str z => cases h
  | list ds => cases h
  | tuple ds => cases h
  | dict k => cases h
theorem dShort_inv {m : Int} {d : PyData} (h : dShort m d = true) : ∃ z : Str, d = .str z ∧ isPr z = true ∧ (z.length : Int) ≤ m := by
  cases d with
  | str z =>
    have h : (isPr z && decide ((z.length : Int) ≤ m)) = true := h
    obtain ⟨h1, h2⟩ := Bool.and_eq_true_iff.mp h
    exact ⟨z, rfl, h1, of_decide_eq_true h2⟩
  | none => cases h
  | bool b => cases h
  | int i => cases h
  | list ds => cases h
  | tuple ds => cases h
  | dict k => cases h
theorem dCmd_inv {d : PyData} (h : dCmd d = true) : ∃ (c n : Int) (t : Str), d = .tuple [.int c, .int n, .str t] ∧ -100 ≤ c ∧ c ≤ -1 ∧ 1 ≤ n ∧ n ≤ 1000000000000 ∧ isPr t = true ∧ (t.length : Int) ≤ 240 := by
  unfold dCmd at h
  split at h
  · rename_i c n t
    rw [Bool.and_eq_true, Bool.and_eq_true] at h
    obtain ⟨⟨h1, h2⟩, h3⟩ := h
    obtain ⟨c, rfl, c0, c1⟩ := dInt_inv h1
    obtain ⟨n, rfl, n0, n1⟩ := dInt_inv h2
    obtain ⟨t, rfl, t0, t1⟩ := dShort_inv h3
    exact ⟨c, n, t, rfl, c0, c1, n0, n1, t0, t1⟩
  · cases h
/-- what a tuple of three ints, ints, texts stands for -/
theorem Dt.three {H : Hp} {A : Option Addr} {v : V} {d1 d2 d3 : PyData} (h : Dt K H A v (.tuple [d1, d2, d3])) : ∃ a x1 x2 x3, v = .ref a ∧ TupAt K H a [x1, x2, x3] ∧ Dt K H A x1 d1 ∧ Dt K H A x2 d2 ∧ Dt K H A x3 d3 := by
  cases h with
  | tup ha hd =>
    cases hd with
    | cons h1 hd =>
      cases hd with
      | cons h2 hd =>
        cases hd with
        | cons h3 hd =>
          cases hd
          exact ⟨_, _, _, _, rfl, ha, h1, h2, h3⟩
mutual
theorem Dt.any {H : Hp} {A : Option Addr} : ∀ (d : PyData) (v : V), Dt K H A v d → Dt K H none v d
  | .none, _, h => by cases h; exact .non
  | .bool b, _, h => by cases h; exact .bl b
  | .int i, _, h => by cases h; exact .int i
  | .str z, _, h => by cases h with | str _ hz => exact .str z hz
  | .list ds, _, h => by cases h with | lst hn ha hd => exact .lst trivial ha (DtAll.any ds _ hd)
  | .tuple ds, _, h => by cases h with | tup ha hd => exact .tup ha (DtAll.any ds _ hd)
  | .dict _, _, h => by cases h
theorem DtAll.any {H : Hp} {A : Option Addr} : ∀ (ds : List PyData) (xs : List V), DtAll K H A xs ds → DtAll K H none xs ds
  | [], _, h => by cases h; exact .nil
  | d :: ds, _, h => by cases h with | cons h1 h2 => exact .cons (Dt.any d _ h1) (DtAll.any ds _ h2)
end
theorem Dt.an {H : Hp} {A : Option Addr} {v : V} {d : PyData} (h : Dt K H A v d) : Dt K H none v d := Dt.any d v h
/-! data without lists -/
mutual
def noL : PyData → Bool
  | .list _ => false
  | .tuple ds => noLs ds
  | _ => true
def noLs : List PyData → Bool
  | [] => true
  | d :: r => noL d && noLs r
end
/-- tracked tuples stay -/
def Tp (H H' : Hp) : Prop := ∀ a xs, H a = some (.tup xs) → H' a = some (.tup xs)
mutual
theorem Dt.keep {H H' : Hp} {A B : Option Addr} (t : Tp H H') : ∀ (d : PyData) (v : V), noL d = true → Dt K H A v d → Dt K H' B v d
  | .none, _, _, h => by cases h; exact .non
  | .bool b, _, _, h => by cases h; exact .bl b
  | .int i, _, _, h => by cases h; exact .int i
  | .str z, _, _, h => by cases h with | str _ hz => exact .str z hz
  | .list ds, _, n, _ => by cases n
  | .tuple ds, _, n, h => by cases h with | tup ha hd => exact .tup (ha.imp (t _ _) id) (DtAll.keep t ds _ n hd)
  | .dict _, _, _, h => by cases h
theorem DtAll.keep {H H' : Hp} {A B : Option Addr} (t : Tp H H') : ∀ (ds : List PyData) (xs : List V), noLs ds = true → DtAll K H A xs ds → DtAll K H' B xs ds
  | [], _, _, h => by cases h; exact .nil
  | d :: ds, _, n, h => by
    have n : (noL d && noLs ds) = true := n
    rw [Bool.and_eq_true] at n
    cases h with | cons h1 h2 => exact .cons (Dt.keep t d _ n.1 h1) (DtAll.keep t ds _ n.2 h2)
end
theorem DtAll.snoc {H : Hp} {A : Option Addr} : ∀ {xs : List V} {ds : List PyData} {x : V} {d : PyData}, DtAll K H A xs ds → Dt K H A x d → DtAll K H A (xs ++ [x]) (ds ++ [d])
  | _, _, _, _, .nil, h => .cons h .nil
  | _, _, _, _, .cons h r, h2 => .cons h (r.snoc h2)
theorem TupAt.tp {H H' : Hp} {a : Addr} {xs : List V} (h : TupAt K H a xs) (t : Tp H H') : TupAt K H' a xs := h.imp (t _ _) id
theorem Same.tp {H H' : Hp} (s : Same H H') : Tp H H' := fun _ _ h => s _ _ h
theorem Mod.tp {H H' : Hp} {A D : Addr} (s : Mod A H H') (dr : Dr H D A) : Tp H H' := fun a xs h => by
  obtain ⟨_, _, _, _, e, _⟩ := id dr
  exact s _ _ (ne_of h e (by intro z; cases z)) h
theorem tp_put {H : Hp} {l : Addr} {xs ys : List V} (h : H l = some (.lst xs)) : Tp H (upd H l (.lst ys)) := fun a zs e => by
  rw [upd_ne (ne_of e h (by intro z; cases z))]; exact e
theorem dCmd_noL {d : PyData} (h : dCmd d = true) : noL d = true := by
  obtain ⟨c, n, t, rfl, _⟩ := dCmd_inv h
  rfl
theorem dCmdsFrom_noL : ∀ {ds : List PyData} {b : Option Int}, dCmdsFrom b ds = true → noLs ds = true
  | [], _, _ => rfl
  | d :: r, b, h => by
    rw [dCmdsFrom_cons, Bool.and_eq_true, Bool.and_eq_true] at h
    show (noL d && noLs r) = true
    rw [dCmd_noL h.1.1, dCmdsFrom_noL h.2]; rfl
theorem dCmdsFrom_all : ∀ {ds : List PyData} {b : Option Int}, dCmdsFrom b ds = true → ∀ d ∈ ds, dCmd d = true
  | [], _, _, _, m => nomatch m
  | d :: r, b, h, e, m => by
    rw [dCmdsFrom_cons, Bool.and_eq_true, Bool.and_eq_true] at h
    rcases List.mem_cons.mp m with rfl | m
    · exact h.1.1
    · exact dCmdsFrom_all h.2 e m
def lastC : Option Int → List PyData → Option Int
  | b, [] => b
  | _, d :: r => lastC (some (dClient d)) r
theorem lastC_snoc : ∀ (ds : List PyData) (b : Option Int) (d : PyData), lastC b (ds ++ [d]) = some (dClient d)
  | [], _, _ => rfl
  | _ :: r, _, d => lastC_snoc r _ d
theorem dCmdsFrom_snoc : ∀ (ds : List PyData) (b : Option Int) (d : PyData), dCmdsFrom b (ds ++ [d]) = (dCmdsFrom b ds && (dCmd d && dAfter (lastC b ds) d))
  | [], b, d => by
    show dCmdsFrom b [d] = _
    rw [dCmdsFrom_cons, dCmdsFrom_nil, dCmdsFrom_nil, Bool.and_true, Bool.true_and]; rfl
  | e :: r, b, d => by
    show dCmdsFrom b (e :: (r ++ [d])) = _
    rw [dCmdsFrom_cons, dCmdsFrom_snoc r, dCmdsFrom_cons, Bool.and_assoc, Bool.and_assoc, Bool.and_assoc]; rfl
end
theorem noLs_all : ∀ {ds : List PyData}, (∀ d ∈ ds, noL d = true) → noLs ds = true
  | [], _ => rfl
  | d :: r, h => by
    show (noL d && noLs r) = true
    rw [h d List.mem_cons_self, noLs_all (fun e he => h e (List.mem_cons_of_mem _ he))]; rfl

/-! ### the draws of a script, by its cells -/
def cellA (ns : List Int) (k : Nat) : Int := ((ns.getD k 0).natAbs : Int)
theorem cellA_nonneg (ns : List Int) (k : Nat) : 0 ≤ cellA ns k := Int.natCast_nonneg _
def spCellA (K : PySem.W.Frag) : Sp := fun vs H Q _ => ∃ (a : Addr) (ns : List Int) (k : Nat), vs = [.ref a, .int k] ∧ SqL K H a (ns.map V.int) ∧ Q (.int (cellA ns k)) H
def spDraws2 (K : PySem.W.Frag) : Sp := fun vs H Q _ => ∃ (a : Addr) (ns : List Int) (st most : Nat), vs = [.ref a, .int st, .int most] ∧ SqL K H a (ns.map V.int) ∧ ns.length ≤ 63 ∧
  ∀ (H' : Hp) (D : Addr) (ds : List Int), Same H H' → H D = none → H' D = some (.lst (ds.map V.int)) → (∀ d ∈ ds, 0 ≤ d ∧ d < 1000000000000000000) → ds.length ≤ most → Q (.ref D) H'
theorem same_none {H H' : Hp} {p : Addr} (s : Same H H') (h : H' p = none) : H p = none := by
  cases e : H p with
  | none => rfl
  | some o => rw [s p o e] at h; cases h

theorem abs_natAbs (i : Int) : (if i < 0 then -i else i) = (i.natAbs : Int) := by split <;> omega
theorem rng_app2 {ds : List Int} {x : Int} (h : ∀ d ∈ ds, 0 ≤ d ∧ d < 1000000000000000000) (h0 : 0 ≤ x) (h1 : x < 1000000000000000000) : ∀ d ∈ ds ++ [x], 0 ≤ d ∧ d < 1000000000000000000 := fun d hd => by
  rcases List.mem_append.mp hd with hd | hd
  · exact h d hd
  · rw [List.mem_singleton.mp hd]; exact ⟨h0, h1⟩
theorem cutV_map {α : Type} (f : α → V) (xs : List α) (lo hi : Option Int) : ∃ ys : List α, cutV (xs.map f) lo hi = ys.map f ∧ ys.length ≤ xs.length ∧ (∀ y ∈ ys, y ∈ xs) := by
  refine ⟨(xs.drop (HT.sIx xs.length 0 lo)).take (HT.sIx xs.length xs.length hi - HT.sIx xs.length 0 lo), ?_, ?_, ?_⟩
  · unfold cutV
    rw [List.length_map, List.map_take, List.map_drop]
  · rw [List.length_take, List.length_drop]; omega
  · intro y hy
    exact List.mem_of_mem_drop (List.mem_of_mem_take hy)
theorem cutV_most (xs : List Int) (m : Nat) : ∃ ys : List Int, cutV (xs.map V.int) none (some (m : Int)) = ys.map V.int ∧ ys.length ≤ m ∧ (∀ y ∈ ys, y ∈ xs) := by
  obtain ⟨ys, e, _, h⟩ := cutV_map V.int xs none (some (m : Int))
  refine ⟨ys, e, ?_, h⟩
  have hl := congrArg List.length e
  rw [List.length_map] at hl
  rw [← hl]
  unfold cutV
  rw [List.length_take, List.length_drop]
  have : HT.sIx (xs.map V.int).length (xs.map V.int).length (some (m : Int)) ≤ m := by
    rw [HT.sIx_nat]
    exact Nat.min_le_left _ _
  omega
section
variable {P : Program} {w : World} {K : PySem.W.Frag} {mg : Str → Option Value} {base : Heap}
theorem c__law_cell {C_Ballot : Addr} {C_BadBlock : Addr} (T : Txt K mg C_Ballot C_BadBlock) : Cal P w K mg base 1 "_law_cell" (spCellA K) [] := by
  refine cal T.d__law_cell sc__law_cell (fun vs H Q E h => ?_) (fun f cdv A outer s H vs Q E hr h => ?_)
  · obtain ⟨a, ns, k, rfl, _⟩ := h; rfl
  obtain ⟨a, ns, k, rfl, hS, q⟩ := h
  refine ⟨_, (pss_cons (ps_if (pt_cmpR op_lt (pv 1) (pe_callB (klen (K := K)) (by rfl) T.z_len (by decide +kernel) (pa_cons (pv 0) pa_nil)) (nomark _)) (pss_one (ps_ret (pe_callB call_abs (by rfl) T.z_abs (by decide +kernel) (pa_cons (pe_callTy call_int1 (by rfl) T.z_int (by decide +kernel) (pa_cons (pe_ix (kixl (K := K)) (pv 0) (pv 1) (fun _ _ => rfl)) pa_nil)) pa_nil)))) pss_nil)
      (pss_one (ps_ret pe_int))), ?_⟩
  refine ⟨.int k, rfl, .ref a, rfl, a, _, rfl, .inl hS, _, _, rfl, rfl, _, rfl, ite2 (fun e => ?_) (fun e => ?_)⟩
  · have e := of_decide_eq_true e
    rw [List.length_map] at e
    have e1 : k < ns.length := by omega
    have g : (ns.map V.int)[k]? = some (.int (ns.getD k 0)) := by
      rw [List.getElem?_map, List.getD_eq_getElem?_getD, List.getElem?_eq_getElem e1]; rfl
    refine ⟨.ref a, rfl, .int k, rfl, a, _, _, _, rfl, rfl, hS, atI_nat g, ?_⟩
    walk_at "rds"
    rw [abs_natAbs]
    exact q
  · have e2 : ¬ ((k : Int) < ((ns.map V.int).length : Int)) := fun z => e (decide_eq_true z)
    rw [List.length_map] at e2
    have e1 : ns.getD k 0 = 0 := by
      rw [List.getD_eq_getElem?_getD, List.getElem?_eq_none (by omega)]; rfl
    unfold cellA at q
    rw [e1] at q
    exact q
theorem c__law_draws {C_Ballot : Addr} {C_BadBlock : Addr} (T : Txt K mg C_Ballot C_BadBlock) : Cal P w K mg base 1 "_law_draws" (spDraws2 K) [] := by
  refine cal T.d__law_draws sc__law_draws (fun vs H Q E h => ?_) (fun f cdv A outer s H vs Q E hr h => ?_)
  · obtain ⟨a, ns, st, most, rfl, _⟩ := h; rfl
  obtain ⟨a, ns, st, most, rfl, hS, hlen, q⟩ := h
  refine ⟨_, (pss_cons (ps_set (i := 3) sc__law_draws.nd rfl (Or.inl rfl) (pe_lst pa_nil))
      (pss_cons (ps_for PassesOwn.never rfl (pi_list (pe_slice (ksll (K := K)) (pv 0) (po_some (pv 1)) po_none)) (pg_name (i := 4) sc__law_draws.nd rfl (Or.inl rfl)) (pss_cons (ps_set (i := 5) sc__law_draws.nd rfl (Or.inl rfl) (pe_callB call_abs (by rfl) T.z_abs (by decide +kernel) (pa_cons (pe_callTy call_int1 (by rfl) T.z_int (by decide +kernel) (pa_cons (pv 4) pa_nil)) pa_nil)))
      (pss_one (ps_if (pt_cmpR op_lt (pv 5) (pe_op op_pow pe_int pe_int) (nomark _)) (pss_cons (ps_set (i := 6) sc__law_draws.nd rfl (Or.inl rfl) (pe_op op_mod (pe_callTy call_int1 (by rfl) T.z_int (by decide +kernel) (pa_cons (pe_op op_add (pe_op op_mul (pv 5) pe_int) pe_int) pa_nil)) pe_int))
      (pss_cons (ps_expr (pe_bm PySem.F.plainAttrs_list PySem.F.slot_list_append PySem.F.type_list_append mt_append (pv 3) (pa_cons (pv 5) pa_nil)))
      (pss_cons (ps_expr (pe_bm PySem.F.plainAttrs_list PySem.F.slot_list_append PySem.F.type_list_append mt_append (pv 3) (pa_cons (pe_op op_fdiv (pe_op op_mod (pe_callTy call_int1 (by rfl) T.z_int (by decide +kernel) (pa_cons (pe_op op_add (pe_op op_add (pe_op op_mul (pv 6) pe_int) (pe_op op_fdiv (pv 5) pe_int)) pe_int) pa_nil)) pe_int) pe_int) pa_nil)))
      (pss_one (ps_expr (pe_bm PySem.F.plainAttrs_list PySem.F.slot_list_append PySem.F.type_list_append mt_append (pv 3) (pa_cons (pe_op op_fdiv (pe_op op_mod (pe_callTy call_int1 (by rfl) T.z_int (by decide +kernel) (pa_cons (pe_op op_add (pe_op op_add (pe_op op_mul (pv 6) pe_int) (pe_op op_fdiv (pv 5) pe_int)) pe_int) pa_nil)) pe_int) pe_int) pa_nil))))))) (pss_one (ps_for PassesOwn.never rfl (pi_range1 (by rfl) T.z_range (pa_cons pe_int pa_nil)) (pg_name (i := 7) sc__law_draws.nd rfl (Or.inl rfl)) (pss_cons (ps_if (pt_cmpR op_gt (pv 5) pe_int (nomark _)) (pss_one (ps_expr (pe_bm PySem.F.plainAttrs_list PySem.F.slot_list_append PySem.F.type_list_append mt_append (pv 3) (pa_cons (pe_op op_mod (pe_callTy call_int1 (by rfl) T.z_int (by decide +kernel) (pa_cons (pv 5) pa_nil)) pe_int) pa_nil)))) pss_nil)
      (pss_one (ps_set (i := 5) sc__law_draws.nd rfl (Or.inl rfl) (pe_op op_fdiv (pv 5) pe_int))))))))))
      (pss_one (ps_ret (pe_slice (ksll (K := K)) (pv 3) po_none (po_some (pv 2))))))), ?_⟩
  refine ⟨by decide, fun D hD => ?_⟩
  walk_at "rds"
  refine ⟨a, _, rfl, (same_upd hD).seq hS, fun p hp => ?_⟩
  obtain ⟨cs, ecs, hcl, _⟩ := cutV_map V.int ns (some (st : Int)) none
  rw [ecs]
  have sp : Same H (upd (upd H D (.lst [])) p (.lst (cs.map V.int))) := (same_upd hD).trans (same_upd hp)
  have hpD : p ≠ D := fun e => by rw [e, upd_same] at hp; cases hp
  refine ⟨p, rfl, ⟨_, sq upd_same⟩, ?_⟩
  refine for_it (walk_list (K := K) (a := p) (xs := cs.map V.int)) (Pv := fun i σ H' => ∃ y4 y5 y6 y7 ds, σ = [some (.ref a), some (.int st), some (.int most), some (.ref D), y4, y5, y6, y7] ∧ Same H H' ∧ H' p = some (.lst (cs.map V.int)) ∧ H' D = some (.lst (ds.map V.int)) ∧ (∀ d ∈ ds, 0 ≤ d ∧ d < 1000000000000000000) ∧ ds.length ≤ 20 * i) ⟨none, none, none, none, [], rfl, sp, upd_same, by rw [upd_ne hpD.symm]; exact upd_same, by simp, by simp⟩ (fun i σ H' _ h => by obtain ⟨_, _, _, _, _, _, _, h, _⟩ := h; exact sq h) (fun i x σ H1 H2 hi hp' hy => ?_) (fun σ H1 hp' => ?_)
  · obtain ⟨y4, y5, y6, y7, ds, rfl, sm, hpp, hd, hrg, hl⟩ := hp'
    obtain ⟨rfl, gx⟩ := hy
    rw [List.length_map] at hi
    rw [List.getElem?_map, List.getElem?_eq_getElem hi] at gx
    obtain rfl : V.int cs[i] = x := Option.some.inj gx
    walk_at "rds"
    rw [abs_natAbs]
    have hc0 : 0 ≤ ((cs[i].natAbs : Nat) : Int) := Int.natCast_nonneg _
    generalize ((cs[i].natAbs : Nat) : Int) = c at hc0
    refine ite2 (fun e => ?_) (fun e => ?_)
    · have e : c < (10 : Int) ^ (18 : Int).toNat := of_decide_eq_true e
      have e18 : (10 : Int) ^ (18 : Int).toNat = 10 ^ 18 := rfl
      have hc1 : c < 1000000000000000000 := by omega
      walk_at "rds"
      refine ⟨.inl ⟨rfl, _, sq hd⟩, ?_⟩
      walk_at "rds"
      refine ⟨_, _, _, rfl, rfl, hd, by rw [List.length_map]; exact sz1000' (by omega), ?_⟩
      generalize c * 48271 + 11 = m0
      have hm0 : 0 ≤ m0 % 2147483647 := Int.emod_nonneg _ (by decide)
      have hm1 : m0 % 2147483647 < 2147483647 := Int.emod_lt_of_pos _ (by decide)
      have e1 : upd H2 D (.lst (ds.map V.int ++ [.int c])) D = some (.lst ((ds ++ [c]).map V.int)) := lst_app
      have s1 : Same H (upd H2 D (.lst (ds.map V.int ++ [.int c]))) := same_mut sm hD
      have p1 : (upd H2 D (.lst (ds.map V.int ++ [.int c]))) p = some (.lst (cs.map V.int)) := by rw [upd_ne hpD]; exact hpp
      have r1 := rng_app2 hrg hc0 hc1
      have l1 : (ds ++ [c]).length ≤ 20 * i + 1 := by rw [List.length_append, List.length_singleton]; omega
      generalize upd H2 D (.lst (ds.map V.int ++ [.int c])) = H3 at e1 s1 p1
      generalize ds ++ [c] = ds1 at e1 r1 l1
      walk_at "rds"
      refine ⟨.inl ⟨rfl, _, sq e1⟩, ?_⟩
      walk_at "rds"
      refine ⟨_, _, _, rfl, rfl, e1, by rw [List.length_map]; exact sz1000' (by omega), ?_⟩
      have e2 : upd H3 D (.lst (ds1.map V.int ++ [.int ((m0 % 2147483647 * 16807 + c / 9 + 3) % 2147483647 / 7)])) D = some (.lst ((ds1 ++ [((m0 % 2147483647 * 16807 + c / 9 + 3) % 2147483647 / 7)]).map V.int)) := lst_app
      have s2 : Same H (upd H3 D (.lst (ds1.map V.int ++ [.int ((m0 % 2147483647 * 16807 + c / 9 + 3) % 2147483647 / 7)]))) := same_mut s1 hD
      have p2 : (upd H3 D (.lst (ds1.map V.int ++ [.int ((m0 % 2147483647 * 16807 + c / 9 + 3) % 2147483647 / 7)]))) p = some (.lst (cs.map V.int)) := by rw [upd_ne hpD]; exact p1
      have r2 := rng_app2 (x := ((m0 % 2147483647 * 16807 + c / 9 + 3) % 2147483647 / 7)) r1 (by omega) (by omega)
      have l2 : (ds1 ++ [((m0 % 2147483647 * 16807 + c / 9 + 3) % 2147483647 / 7)]).length ≤ 20 * i + 2 := by rw [List.length_append, List.length_singleton]; omega
      generalize ds1 ++ [((m0 % 2147483647 * 16807 + c / 9 + 3) % 2147483647 / 7)] = ds2 at e2 r2 l2
      walk_at "rds"
      refine ⟨.inl ⟨rfl, _, sq e2⟩, ?_⟩
      walk_at "rds"
      refine ⟨_, _, _, rfl, rfl, e2, by rw [List.length_map]; exact sz1000' (by omega), ?_⟩
      refine ⟨_, _, _, _, ds2 ++ [_], rfl, same_mut s2 hD, by rw [upd_ne hpD]; exact p2, lst_app, rng_app2 r2 (by omega) (by omega), ?_⟩
      rw [List.length_append, List.length_singleton]; omega
    · walk_at "rds"
      refine for_it walk_range (Pv := fun j σ H' => ∃ y4 y6 y7 ds c, σ = [some (.ref a), some (.int st), some (.int most), some (.ref D), y4, some (.int c), y6, y7] ∧ Same H H' ∧ H' p = some (.lst (cs.map V.int)) ∧ H' D = some (.lst (ds.map V.int)) ∧ (∀ d ∈ ds, 0 ≤ d ∧ d < 1000000000000000000) ∧ ds.length ≤ 20 * i + j ∧ 0 ≤ c) ⟨_, y6, y7, ds, c, rfl, sm, hpp, hd, hrg, by omega, by omega⟩ (fun _ _ _ _ _ => trivial) (fun j x σ H3 H4 hj hp hy => ?_) (fun σ H3 hp => ?_)
      · obtain ⟨z4, z6, z7, ds, c, rfl, sm, hpp, hd, hrg, hl, hc0⟩ := hp
        obtain ⟨rfl, rfl⟩ := hy
        have hj' : j < 20 := hj
        walk_at "rds"
        refine ite2 (fun e => ?_) (fun e => ?_)
        · walk_at "rds"
          refine ⟨.inl ⟨rfl, _, sq hd⟩, ?_⟩
          walk_at "rds"
          refine ⟨_, _, _, rfl, rfl, hd, by rw [List.length_map]; exact sz1000' (by omega), ?_⟩
          walk_at "rds"
          refine ⟨_, _, _, ds ++ [_], _, rfl, same_mut sm hD, by rw [upd_ne hpD]; exact hpp, lst_app, rng_app2 hrg (by omega) (by omega), ?_, by omega⟩
          rw [List.length_append, List.length_singleton]; omega
        · walk_at "rds"
          exact ⟨_, _, _, ds, _, rfl, sm, hpp, hd, hrg, by omega, by omega⟩
      · obtain ⟨z4, z6, z7, ds, c, rfl, sm, hpp, hd, hrg, hl, hc0⟩ := hp
        exact ⟨_, _, _, _, ds, rfl, sm, hpp, hd, hrg, by have : (20 : Int).toNat = 20 := rfl; omega⟩
  · obtain ⟨y4, y5, y6, y7, ds, rfl, sm, hpp, hd, hrg, hl⟩ := hp'
    walk_at "rds"
    refine ⟨D, _, rfl, sq hd, fun r hr => ?_⟩
    obtain ⟨es, ees, hes, hm⟩ := cutV_most ds most
    rw [ees]
    exact q _ r es (sm.trans (same_upd hr)) (same_none sm hr) upd_same (fun d hd => hrg d (hm d hd)) hes
end

/-! ### the ballot -/
def mx (a b : Int) : Int := if b > a then b else a
theorem mx_eq (a b : Int) : mx a b = max a b := by unfold mx; split <;> omega
def baF (l : Addr) (la fl : Int) : List (Str × V) := putF "_floor" (.int fl) (putF "_last" (.int la) (putF "_blocks" (.ref l) []))
def BalAt (C : Addr) (H : Hp) (p l : Addr) (xs : List V) (la fl : Int) : Prop := (∃ dx, H p = some (.ins C dx (baF l la fl))) ∧ H l = some (.lst xs)
theorem BalAt.same {C : Addr} {H H' : Hp} {p l : Addr} {xs : List V} {la fl : Int} (h : BalAt C H p l xs la fl) (s : Same H H') : BalAt C H' p l xs la fl := by
  obtain ⟨⟨dx, h1⟩, h2⟩ := h
  exact ⟨⟨dx, s _ _ h1⟩, s _ _ h2⟩
theorem BalAt.ne {C : Addr} {H : Hp} {p l : Addr} {xs : List V} {la fl : Int} (h : BalAt C H p l xs la fl) : p ≠ l := by
  obtain ⟨⟨dx, h1⟩, h2⟩ := h
  exact ne_of h1 h2 (by intro z; cases z)
/-- all but p and l are as they were -/
def But2 (p l : Addr) (H H' : Hp) : Prop := ∀ b o, b ≠ p → b ≠ l → H b = some o → H' b = some o
theorem But2.refl {p l : Addr} {H : Hp} : But2 p l H H := fun _ _ _ _ h => h
theorem But2.trans {p l : Addr} {H H1 H2 : Hp} (a : But2 p l H H1) (b : But2 p l H1 H2) : But2 p l H H2 := fun c o n m h => b c o n m (a c o n m h)
theorem Same.but2 {p l : Addr} {H H' : Hp} (s : Same H H') : But2 p l H H' := fun b o _ _ h => s b o h

def dEp : PyData → Int
  | .tuple (.int e :: _) => e
  | _ => 0
def dHt : PyData → Int
  | .tuple [_, _, .int h, _] => h
  | _ => 0
/-- a block: three ints, and something -/
def dB4 : PyData → Bool
  | .tuple [.int _, .int _, .int _, _] => true
  | _ => false
theorem dB4_inv {d : PyData} (h : dB4 d = true) : ∃ e p t c, d = .tuple [.int e, .int p, .int t, c] := by
  unfold dB4 at h
  split at h
  · exact ⟨_, _, _, _, rfl⟩
  · cases h
theorem Dt.b4 {K : PySem.W.Frag} {H : Hp} {A : Option Addr} {x : V} {d : PyData} (h : dB4 d = true) (hx : Dt K H A x d) : ∃ a x2 x4, x = .ref a ∧ TupAt K H a [.int (dEp d), x2, .int (dHt d), x4] := by
  obtain ⟨e, p, t, c, rfl⟩ := dB4_inv h
  cases hx with
  | tup ha hx =>
    obtain ⟨x1, x2, x3, x4, d1, d2, d3, d4, rfl, e, h1, h2, h3, h4⟩ := hx.four (by rw [hx.length]; rfl)
    cases e
    cases h1
    cases h3
    exact ⟨_, _, _, rfl, ha⟩
theorem noLs_mem : ∀ {ds : List PyData} {d : PyData}, noLs ds = true → d ∈ ds → noL d = true
  | e :: r, d, h, m => by
    have h : (noL e && noLs r) = true := h
    rw [Bool.and_eq_true] at h
    rcases List.mem_cons.mp m with rfl | m
    · exact h.1
    · exact noLs_mem h.2 m
def lastOf (la : Int) (bs : List PyData) : Int := bs.foldl (fun _ b => dEp b) la
def floorOf (fl : Int) (bs : List PyData) : Int := bs.foldl (fun f b => mx f (dHt b - 1)) fl
/-- the epochs ascend strictly -/
def ascE : Int → List PyData → Prop
  | _, [] => True
  | la, b :: r => la < dEp b ∧ ascE (dEp b) r
theorem lastOf_snoc (la : Int) (bs : List PyData) (b : PyData) : lastOf la (bs ++ [b]) = dEp b := by unfold lastOf; rw [List.foldl_append]; rfl
theorem floorOf_snoc (fl : Int) (bs : List PyData) (b : PyData) : floorOf fl (bs ++ [b]) = mx (floorOf fl bs) (dHt b - 1) := by unfold floorOf; rw [List.foldl_append]; rfl
theorem ascE_snoc : ∀ (bs : List PyData) {la : Int} {b : PyData}, ascE la bs → lastOf la bs < dEp b → ascE la (bs ++ [b])
  | [], _, _, _, h => ⟨h, trivial⟩
  | _ :: r, _, _, h, h2 => ⟨h.1, ascE_snoc r h.2 h2⟩
theorem ascE_at : ∀ (bs : List PyData) {la : Int} {i : Nat} {b : PyData}, ascE la bs → bs[i]? = some b → lastOf la (bs.take i) < dEp b
  | [], _, _, _, _, e => by simp at e
  | c :: r, la, 0, b, h, e => by simp at e; subst e; exact h.1
  | c :: r, la, i + 1, b, h, e => by
    have := ascE_at r (i := i) (b := b) h.2 (by simpa using e)
    rw [List.take_succ_cons]
    exact this
def spRestore (C : Addr) : Sp := fun vs H Q _ => ∃ (p l : Addr) (e f : Int) (xs : List V) (la fl : Int), vs = [.ref p, .int e, .int f] ∧ BalAt C H p l xs la fl ∧
  ∀ H', (∀ b o, H b = some o → b ≠ p → H' b = some o) → BalAt C H' p l xs (mx la e) (mx fl f) → Q .non H'
def spRecord (K : PySem.W.Frag) (C B : Addr) : Sp := fun vs H Q E => ∃ (p l : Addr) (v : V) (d : PyData) (xs : List V) (la fl : Int), vs = [.ref p, v] ∧ BalAt C H p l xs la fl ∧ Dt K H none v d ∧ dB4 d = true ∧ xs.length < 1000 ∧
  (la < dEp d → ∀ H', But2 p l H H' → BalAt C H' p l (xs ++ [v]) (dEp d) (mx fl (dHt d - 1)) → Q .non H') ∧ (dEp d ≤ la → E (.ref B) none H)
def spBallot (K : PySem.W.Frag) (C : Addr) : Sp := fun vs H Q _ => ∃ (p dx g : Addr) (xs : List V) (bs : List PyData), vs = [.ref p, .ref g] ∧ H p = some (.ins C dx []) ∧ H g = some (.lst xs) ∧ DtAll K H none xs bs ∧ (∀ b ∈ bs, dB4 b = true) ∧ noLs bs = true ∧ xs.length < 1000 ∧ ascE 0 bs ∧
  ∀ (H' : Hp) (l : Addr), (∀ b o, H b = some o → b ≠ p → H' b = some o) → H l = none → BalAt C H' p l xs (lastOf 0 bs) (floorOf 0 bs) → Q .non H'
def spLa (C : Addr) : Sp := fun vs H Q _ => ∃ (p l : Addr) (xs : List V) (la fl : Int), vs = [.ref p] ∧ BalAt C H p l xs la fl ∧ Q (.int la) H
def spFl (C : Addr) : Sp := fun vs H Q _ => ∃ (p l : Addr) (xs : List V) (la fl : Int), vs = [.ref p] ∧ BalAt C H p l xs la fl ∧ Q (.int fl) H
def spBl (C : Addr) : Sp := fun vs H Q _ => ∃ (p l : Addr) (xs : List V) (la fl : Int), vs = [.ref p] ∧ BalAt C H p l xs la fl ∧ ∀ r, H r = none → Q (.ref r) (upd H r (.lst xs))
section
variable {P : Program} {w : World} {K : PySem.W.Frag} {mg : Str → Option Value} {base : Heap}
theorem m_Ballot__last {C_Ballot : Addr} {C_BadBlock : Addr} (T : Txt K mg C_Ballot C_BadBlock) : Met P w K mg base 1 C_Ballot "last" (spLa C_Ballot) [] := by
  refine met T.cl_Ballot T.me_Ballot__last sc_Ballot__last (fun vs H Q E h => ?_) (fun f cdv A outer s H vs Q E hr h => ?_)
  · obtain ⟨p, l, xs, la, fl, rfl, _⟩ := h; rfl
  obtain ⟨p, l, xs, la, fl, rfl, ⟨⟨dx, g⟩, gl⟩, q⟩ := h
  refine ⟨_, (pss_one (ps_ret (pe_fld (pv 0) rfl))), ?_⟩
  walk_at "rds"
  refine ⟨p, _, dx, _, _, rfl, g, T.cl_Ballot, T.na_Ballot__last, rfl, ?_⟩
  exact q
theorem m_Ballot__floor {C_Ballot : Addr} {C_BadBlock : Addr} (T : Txt K mg C_Ballot C_BadBlock) : Met P w K mg base 1 C_Ballot "floor" (spFl C_Ballot) [] := by
  refine met T.cl_Ballot T.me_Ballot__floor sc_Ballot__floor (fun vs H Q E h => ?_) (fun f cdv A outer s H vs Q E hr h => ?_)
  · obtain ⟨p, l, xs, la, fl, rfl, _⟩ := h; rfl
  obtain ⟨p, l, xs, la, fl, rfl, ⟨⟨dx, g⟩, gl⟩, q⟩ := h
  refine ⟨_, (pss_one (ps_ret (pe_fld (pv 0) rfl))), ?_⟩
  walk_at "rds"
  refine ⟨p, _, dx, _, _, rfl, g, T.cl_Ballot, T.na_Ballot__floor, rfl, ?_⟩
  exact q
theorem m_Ballot__blocks {C_Ballot : Addr} {C_BadBlock : Addr} (T : Txt K mg C_Ballot C_BadBlock) : Met P w K mg base 1 C_Ballot "blocks" (spBl C_Ballot) [] := by
  refine met T.cl_Ballot T.me_Ballot__blocks sc_Ballot__blocks (fun vs H Q E h => ?_) (fun f cdv A outer s H vs Q E hr h => ?_)
  · obtain ⟨p, l, xs, la, fl, rfl, _⟩ := h; rfl
  obtain ⟨p, l, xs, la, fl, rfl, ⟨⟨dx, g⟩, gl⟩, q⟩ := h
  refine ⟨_, (pss_one (ps_ret (pe_callTy call_list_of (by rfl) T.z_list (by decide +kernel) (pa_cons (pe_fld (pv 0) rfl) pa_nil)))), ?_⟩
  walk_at "rds"
  refine ⟨p, _, dx, _, _, rfl, g, T.cl_Ballot, T.na_Ballot__blocks, rfl, ?_⟩
  walk_at "rds"
  exact ⟨l, xs, rfl, .inl (sq gl), fun r hr => q r hr⟩
theorem m_Ballot__restore {C_Ballot : Addr} {C_BadBlock : Addr} (T : Txt K mg C_Ballot C_BadBlock) : Met P w K mg base 1 C_Ballot "restore" (spRestore C_Ballot) [] := by
  refine met T.cl_Ballot T.me_Ballot__restore sc_Ballot__restore (fun vs H Q E h => ?_) (fun f cdv A outer s H vs Q E hr h => ?_)
  · obtain ⟨p, l, e, f, xs, la, fl, rfl, _⟩ := h; rfl
  obtain ⟨p, l, e, f, xs, la, fl, rfl, b, q⟩ := h
  have hne := b.ne
  obtain ⟨⟨dx, g⟩, gl⟩ := b
  refine ⟨_, (pss_cons (ps_fld (pv 0) (pe_callB (call_max2 rfl) (by rfl) T.z_max (by decide +kernel) (pa_cons (pe_fld (pv 0) rfl) (pa_cons (pv 1) pa_nil))) rfl)
      (pss_one (ps_fld (pv 0) (pe_callB (call_max2 rfl) (by rfl) T.z_max (by decide +kernel) (pa_cons (pe_fld (pv 0) rfl) (pa_cons (pv 2) pa_nil))) rfl))), ?_⟩
  walk_at "rds"
  refine ⟨p, _, dx, _, _, rfl, g, T.cl_Ballot, T.na_Ballot__last, rfl, ?_⟩
  walk_at "rds"
  refine ⟨_, _, rfl, ?_⟩
  walk_at "rds"
  refine ⟨p, _, dx, _, rfl, g, T.cl_Ballot, T.na_Ballot__last, (by show 3 < 1000; decide), ?_⟩
  walk_at "rds"
  refine ⟨p, _, dx, _, _, rfl, upd_same, T.cl_Ballot, T.na_Ballot__floor, rfl, ?_⟩
  walk_at "rds"
  refine ⟨_, _, rfl, ?_⟩
  walk_at "rds"
  refine ⟨p, _, dx, _, rfl, upd_same, T.cl_Ballot, T.na_Ballot__floor, (by show 3 < 1000; decide), ?_⟩
  exact q _ (fun b o e hb => by rw [upd_ne hb, upd_ne hb]; exact e) ⟨⟨dx, upd_same⟩, by rw [upd_ne hne.symm, upd_ne hne.symm]; exact gl⟩
theorem m_Ballot__record {C_Ballot : Addr} {C_BadBlock : Addr} (T : Txt K mg C_Ballot C_BadBlock) : MetX P w K mg base 2 C_Ballot "record" (spRecord K C_Ballot C_BadBlock) := by
  have m_Ballot__restore := m_Ballot__restore (P := P) (w := w) (base := base) T
  refine metX T.cl_Ballot T.me_Ballot__record sc_Ballot__record (fun vs H Q E h => ?_) (fun f cdv A outer s H vs Q E hr h => ?_)
  · obtain ⟨p, l, v, d, xs, la, fl, rfl, _⟩ := h; rfl
  obtain ⟨p, l, v, d, xs, la, fl, rfl, b, hd, h4, hlen, q, qe⟩ := h
  have hne := b.ne
  obtain ⟨⟨dx, g⟩, gl⟩ := id b
  obtain ⟨t, x2, x4, rfl, ht⟩ := hd.b4 h4
  refine ⟨_, (pss_cons (ps_if (pt_cmpR op_le (pe_ix (kixt (K := K)) (pv 1) pe_int (fun _ _ => rfl)) (pe_fld (pv 0) rfl) (nomark _)) (pss_one (ps_raise rfl (takes_of rfl rfl rfl rfl) (pmk_ok T.x_BadBlock (by rfl)))) pss_nil)
      (pss_cons (ps_expr (pe_bm PySem.F.plainAttrs_list PySem.F.slot_list_append PySem.F.type_list_append mt_append (pe_fld (pv 0) rfl) (pa_cons (pv 1) pa_nil)))
      (pss_one (ps_expr (pe_mt m_Ballot__restore hr (by decide) (pv 0) (pa_cons (pe_ix (kixt (K := K)) (pv 1) pe_int (fun _ _ => rfl)) (pa_cons (pe_op op_sub (pe_ix (kixt (K := K)) (pv 1) pe_int (fun _ _ => rfl)) pe_int) pa_nil))))))), ?_⟩
  walk_at "rds"
  refine ⟨t, _, 0, _, rfl, rfl, ht.sq, atI_nat (j := 0) rfl, ?_⟩
  walk_at "rds"
  refine ⟨p, _, dx, _, _, rfl, g, T.cl_Ballot, T.na_Ballot__last, rfl, ?_⟩
  walk_at "rds"
  refine ite2 (fun e => ?_) (fun e => ?_)
  · exact qe (of_decide_eq_true e)
  · have e : ¬ dEp d ≤ la := fun z => e (decide_eq_true z)
    walk_at "rds"
    refine ⟨p, _, dx, _, _, rfl, g, T.cl_Ballot, T.na_Ballot__blocks, rfl, ?_⟩
    refine ⟨.inl ⟨rfl, _, sq gl⟩, ?_⟩
    walk_at "rds"
    refine ⟨l, xs, _, rfl, rfl, gl, sz1000' (by omega), ?_⟩
    have b2 : BalAt C_Ballot (upd H l (.lst (xs ++ [.ref t]))) p l (xs ++ [.ref t]) la fl := ⟨⟨dx, by rw [upd_ne hne]; exact g⟩, upd_same⟩
    have ht2 := ht.tp (tp_put (ys := xs ++ [.ref t]) gl)
    walk_at "rds"
    obtain ⟨dx2, g2⟩ := b2.1
    refine ⟨p, dx2, _, rfl, g2, rfl, ?_⟩
    walk_at "rds"
    refine ⟨t, _, 0, _, rfl, rfl, ht2.sq, atI_nat (j := 0) rfl, ?_⟩
    walk_at "rds"
    refine ⟨t, _, 2, _, rfl, rfl, ht2.sq, atI_nat (j := 2) rfl, ?_⟩
    walk_at "rds"
    refine ⟨p, l, _, _, _, la, fl, rfl, b2, fun H' k b3 => ?_⟩
    walk_at "rds"
    refine q (by omega) _ (fun b o n m e => k _ _ (by rw [upd_ne m]; exact e) n) ?_
    have em : mx la (dEp d) = dEp d := by unfold mx; rw [if_pos (by omega)]
    rw [← em]
    exact b3
theorem k_Ballot {C_Ballot : Addr} {C_BadBlock : Addr} (T : Txt K mg C_Ballot C_BadBlock) : Mak P w K mg base 3 "Ballot" C_Ballot (spBallot K C_Ballot) [] := by
  have m_Ballot__record := m_Ballot__record (P := P) (w := w) (base := base) T
  refine mak T.g_Ballot T.mk_Ballot sc_Ballot____init__ (fun vs H Q E h => ?_) (fun f cdv A outer s H vs Q E hr h => ?_)
  · obtain ⟨p, dx, g, xs, bs, rfl, _⟩ := h; rfl
  obtain ⟨p, dx, g, xs, bs, rfl, hp, hg, hx, hb, hnl, hlen, ha, q⟩ := h
  refine ⟨_, (pss_cons (ps_fld (pv 0) (pe_lst pa_nil) rfl)
      (pss_cons (ps_fld (pv 0) pe_int rfl)
      (pss_cons (ps_fld (pv 0) pe_int rfl)
      (pss_one (ps_for PassesOwn.never rfl (pi_list (pv 1)) (pg_name (i := 2) sc_Ballot____init__.nd rfl (Or.inl rfl)) (pss_one (ps_expr (pe_mtX m_Ballot__record hr (by decide) no_pass (pv 0) (pa_cons (pv 2) pa_nil))))))))), ?_⟩
  refine ⟨by decide, fun l hl => ?_⟩
  walk_at "rds"
  refine ⟨p, _, dx, _, rfl, (same_upd hl) _ _ hp, T.cl_Ballot, T.na_Ballot__blocks, by decide, ?_⟩
  walk_at "rds"
  refine ⟨p, _, dx, _, rfl, upd_same, T.cl_Ballot, T.na_Ballot__last, (by show 1 < 1000; decide), ?_⟩
  walk_at "rds"
  refine ⟨p, _, dx, _, rfl, upd_same, T.cl_Ballot, T.na_Ballot__floor, (by show 2 < 1000; decide), ?_⟩
  have hlp : l ≠ p := (ne_of_none hp hl).symm
  have hgp : g ≠ p := ne_of hg hp (by intro z; cases z)
  have hlg : g ≠ l := ne_of_none hg hl
  walk_at "rds"
  have kp : ∀ b o, H b = some o → b ≠ p → upd (upd (upd (upd H l (.lst [])) p (.ins C_Ballot dx (putF "_blocks" (.ref l) []))) p (.ins C_Ballot dx (putF "_last" (.int 0) (putF "_blocks" (.ref l) [])))) p (.ins C_Ballot dx (putF "_floor" (.int 0) (putF "_last" (.int 0) (putF "_blocks" (.ref l) [])))) b = some o := fun b o e n => by
    rw [upd_ne n, upd_ne n, upd_ne n]; exact (same_upd hl) _ _ e
  have b0 : BalAt C_Ballot (upd (upd (upd (upd H l (.lst [])) p (.ins C_Ballot dx (putF "_blocks" (.ref l) []))) p (.ins C_Ballot dx (putF "_last" (.int 0) (putF "_blocks" (.ref l) [])))) p (.ins C_Ballot dx (putF "_floor" (.int 0) (putF "_last" (.int 0) (putF "_blocks" (.ref l) []))))) p l [] 0 0 :=
    ⟨⟨dx, upd_same⟩, by rw [upd_ne hlp, upd_ne hlp, upd_ne hlp]; exact upd_same⟩
  refine ⟨⟨_, sq (kp _ _ hg hgp)⟩, ?_⟩
  refine for_it (walk_list (K := K) (a := g) (xs := xs)) (Pv := fun i σ H' => ∃ y2, σ = [some (.ref p), some (.ref g), y2] ∧ (∀ b o, H b = some o → b ≠ p → H' b = some o) ∧ BalAt C_Ballot H' p l (xs.take i) (lastOf 0 (bs.take i)) (floorOf 0 (bs.take i))) ⟨none, rfl, kp, b0⟩ (fun i σ H' _ h => by obtain ⟨_, _, h, _⟩ := h; exact sq (h _ _ hg hgp)) (fun i x σ H1 H2 hi hp' hy => ?_) (fun σ H1 hp' => ?_)
  · obtain ⟨y2, rfl, k, b⟩ := hp'
    obtain ⟨rfl, gx⟩ := hy
    obtain ⟨d, gd, hdx⟩ := hx.get gx
    have h4 := hb d (List.mem_of_getElem? gd)
    have hdx2 : Dt K H2 none x d := Dt.keep (fun a ys e => k _ _ e (ne_of e hp (by intro z; cases z))) d x (noLs_mem hnl (List.mem_of_getElem? gd)) hdx
    obtain ⟨⟨dx2, g2⟩, gl2⟩ := id b
    walk_at "rds"
    refine ⟨p, dx2, _, rfl, g2, rfl, ?_⟩
    walk_at "rds"
    refine ⟨p, l, x, d, _, _, _, rfl, b, hdx2, h4, by rw [List.length_take]; omega, fun _ H3 bu b3 => ?_, fun z => absurd (ascE_at bs ha gd) (by omega)⟩
    refine ⟨_, rfl, fun b o e n => bu _ _ n (ne_of_none e hl) (k _ _ e n), ?_⟩
    rw [List.take_add_one, gx, List.take_add_one, gd]
    show BalAt _ _ _ _ (_ ++ [x]) (lastOf 0 (_ ++ [d])) (floorOf 0 (_ ++ [d]))
    rw [lastOf_snoc, floorOf_snoc]
    exact b3
  · obtain ⟨y2, rfl, k, b⟩ := hp'
    rw [List.take_of_length_le (Nat.le_refl _), List.take_of_length_le (by rw [hx.length]; exact Nat.le_refl _)] at b
    exact q _ l k hl b
end

/-! ### the law -/
def bd (e p h : Int) : PyData := .tuple [.int e, .int p, .int h, .tuple []]
def isBd (d : PyData) : Bool := match d with
  | .tuple [.int _, .int _, .int _, .tuple []] => true
  | _ => false
theorem isBd_inv {d : PyData} (h : isBd d = true) : ∃ e p t, d = bd e p t := by
  unfold isBd at h
  split at h
  · exact ⟨_, _, _, rfl⟩
  · cases h
theorem isBd_b4 {d : PyData} (h : isBd d = true) : dB4 d = true := by obtain ⟨e, p, t, rfl⟩ := isBd_inv h; rfl
theorem isBd_noL {d : PyData} (h : isBd d = true) : noL d = true := by obtain ⟨e, p, t, rfl⟩ := isBd_inv h; rfl
theorem isBd_noLs {bs : List PyData} (h : ∀ b ∈ bs, isBd b = true) : noLs bs = true := by
  induction bs with
  | nil => rfl
  | cons b r ih =>
    show (noL b && noLs r) = true
    rw [isBd_noL (h b List.mem_cons_self), ih (fun z hz => h z (List.mem_cons_of_mem _ hz))]; rfl
theorem isBd_lay : ∀ {bs : List PyData}, (∀ b ∈ bs, isBd b = true) → PyData.canLayAll0 bs = true ∧ PyData.depthAll bs ≤ 2
  | [], _ => ⟨by simp [PyData.canLayAll0], by simp [PyData.depthAll]⟩
  | b :: r, h => by
    obtain ⟨i1, i2⟩ := isBd_lay (bs := r) (fun z hz => h z (List.mem_cons_of_mem _ hz))
    obtain ⟨e, p, t, rfl⟩ := isBd_inv (h b List.mem_cons_self)
    constructor
    · rw [PyData.canLayAll0, i1]; simp [bd, PyData.canLay0, PyData.canLayAll0]
    · rw [PyData.depthAll]
      have : (bd e p t).depth ≤ 2 := by simp [bd, PyData.depth, PyData.depthAll]
      omega
theorem shaped_bds {bs : List PyData} (h : ∀ b ∈ bs, isBd b = true) : SeqAt.shaped (.list bs) = true ∧ PyData.eqv (.list bs) (.list bs) = true := by
  obtain ⟨i1, i2⟩ := isBd_lay h
  have l : (PyData.list bs).canLay0 = true := by rw [PyData.canLay0]; exact i1
  refine ⟨?_, SeqAt.eqv_refl _ l⟩
  unfold SeqAt.shaped
  rw [l, decide_eq_true (by rw [PyData.depth]; omega)]; rfl
def spLBlock (K : PySem.W.Frag) : Sp := fun vs H Q _ => ∃ (d e : Int), vs = [.int d, .int e] ∧ 0 ≤ d ∧ 1 ≤ e ∧
  ∀ (H' : Hp) (x : V) (p h : Int), Same H H' → Dt K H' none x (bd e p h) → Q x H'
def spRecorded (K : PySem.W.Frag) (C : Addr) : Sp := fun vs H Q _ => ∃ (p l : Addr) (v : V) (d : PyData) (xs : List V) (la fl : Int), vs = [.ref p, v] ∧ BalAt C H p l xs la fl ∧ Dt K H none v d ∧ dB4 d = true ∧ xs.length < 1000 ∧
  (la < dEp d → ∀ H', But2 p l H H' → BalAt C H' p l (xs ++ [v]) (dEp d) (mx fl (dHt d - 1)) → Q (.bl true) H') ∧ (dEp d ≤ la → Q (.bl false) H)
section
variable {P : Program} {w : World} {K : PySem.W.Frag} {mg : Str → Option Value} {base : Heap}
theorem c__law_block {C_Ballot : Addr} {C_BadBlock : Addr} (T : Txt K mg C_Ballot C_BadBlock) : Cal P w K mg base 1 "_law_block" (spLBlock K) [] := by
  refine cal T.d__law_block sc__law_block (fun vs H Q E h => ?_) (fun f cdv A' outer s H vs Q E hr h => ?_)
  · obtain ⟨d, e, rfl, _⟩ := h; rfl
  obtain ⟨d, e, rfl, hd, he, q⟩ := h
  refine ⟨_, (pss_cons (ps_if (pt_cmpR op_eq (pe_op op_mod (pv 0) pe_int) pe_int (nomark _)) (pss_one (ps_ret (pe_tup (pa_cons (pv 1) (pa_cons pe_int (pa_cons pe_int (pa_cons (pe_tup pa_nil) pa_nil))))))) pss_nil)
      (pss_cons (ps_set (i := 2) sc__law_block.nd rfl (Or.inl rfl) (pe_op op_add pe_int (pe_op op_mod (pe_op op_fdiv (pv 0) pe_int) (pv 1))))
      (pss_cons (ps_if (pt_cmpR op_ge (pv 2) (pv 1) (nomark _)) (pss_one (ps_ret (pe_tup (pa_cons (pv 1) (pa_cons pe_int (pa_cons pe_int (pa_cons (pe_tup pa_nil) pa_nil))))))) pss_nil)
      (pss_one (ps_ret (pe_tup (pa_cons (pv 1) (pa_cons (pv 2) (pa_cons (pe_op op_add pe_int (pe_op op_mod (pe_op op_fdiv (pv 0) pe_int) (pv 2))) (pa_cons (pe_tup pa_nil) pa_nil)))))))))), ?_⟩
  have fin : ∀ (H0 : Hp) (u t : Addr) (p h : Int), Same H H0 → H0 u = none → (upd H0 u (.tup [])) t = none → Q (.ref t) (upd (upd H0 u (.tup [])) t (.tup [.int e, .int p, .int h, .ref u])) := fun H0 u t p h s hu ht =>
    q _ _ p h ((s.trans (same_upd hu)).trans (same_upd ht)) (.tup (.inl upd_same) (.cons (.int _) (.cons (.int _) (.cons (.int _) (.cons (.tup (.inl ((same_upd ht) _ _ upd_same)) .nil) .nil)))))
  walk_at "rds"
  refine ite2 (fun _ => ?_) (fun _ => ?_)
  · walk_at "rds"
    intro u hu
    walk_at "rds"
    intro t ht
    exact fin H u t 0 1 (Same.refl H) hu ht
  walk_at "rds"
  refine ite2 (fun _ => ?_) (fun _ => ?_)
  · walk_at "rds"
    intro u hu
    walk_at "rds"
    intro t ht
    exact fin H u t 0 1 (Same.refl H) hu ht
  walk_at "rds"
  have hp : 0 ≤ d / 4 % e := Int.emod_nonneg _ (by omega)
  refine ⟨(by show 0 < 1 + d / 4 % e; omega), ?_⟩
  walk_at "rds"
  intro u hu
  walk_at "rds"
  intro t ht
  exact fin H u t _ _ (Same.refl H) hu ht
theorem c__law_recorded {C_Ballot : Addr} {C_BadBlock : Addr} (T : Txt K mg C_Ballot C_BadBlock) : Cal P w K mg base 3 "_law_recorded" (spRecorded K C_Ballot) [] := by
  have m_Ballot__record := m_Ballot__record (P := P) (w := w) (base := base) T
  refine cal T.d__law_recorded sc__law_recorded (fun vs H Q E h => ?_) (fun f cdv A' outer s H vs Q E hr h => ?_)
  · obtain ⟨p, l, v, d, xs, la, fl, rfl, _⟩ := h; rfl
  obtain ⟨p, l, v, d, xs, la, fl, rfl, b, hd, h4, hlen, qt, qf⟩ := h
  refine ⟨_, (pss_cons (ps_try_only (Wout := fun _ _ _ _ => False) rfl rfl ⟨by rfl, by decide, .inl T.x_BadBlock.g⟩ takes0 (fun W pn xe tk po => (pss_one (ps_expr (pe_mtX m_Ballot__record hr (by decide) (fun σ => passAt tk σ) (pv 0) (pa_cons (pv 1) pa_nil))))) (fun a oe cls d pn _ _ => (pss_one (ps_ret pe_bl))))
      (pss_one (ps_ret pe_bl))), ?_⟩
  obtain ⟨⟨dx, g⟩, gl⟩ := id b
  walk_at "rds"
  refine ⟨p, dx, _, rfl, g, rfl, ?_⟩
  walk_at "rds"
  refine ⟨p, l, v, d, xs, la, fl, rfl, b, hd, h4, hlen, fun e H' bu b' => ?_, fun e => ?_⟩
  · walk_at "rds"
    exact qt e H' bu b'
  · refine ⟨true, T.x_BadBlock.exm T.u_BadBlock_BadBlock, fun _ a ha => ?_, fun z => nomatch z⟩
    walk_at "rds"
    exact qf e
theorem floor_mem : ∀ (bs : List PyData) (fl : Int), floorOf fl bs ∈ fl :: bs.map (fun b => dHt b - 1)
  | [], _ => List.mem_cons_self
  | b :: r, fl => by
    have h := floor_mem r (mx fl (dHt b - 1))
    show floorOf (mx fl (dHt b - 1)) r ∈ _
    rw [List.map_cons]
    rcases List.mem_cons.mp h with h | h
    · rw [h]
      unfold mx
      split
      · exact List.mem_cons_of_mem _ List.mem_cons_self
      · exact List.mem_cons_self
    · exact List.mem_cons_of_mem _ (List.mem_cons_of_mem _ h)
theorem floor_le : ∀ (bs : List PyData) (fl : Int), ∀ y ∈ fl :: bs.map (fun b => dHt b - 1), y ≤ floorOf fl bs
  | [], fl, y, h => by rw [List.map_nil, List.mem_singleton] at h; rw [h]; exact Int.le_refl _
  | b :: r, fl, y, h => by
    have ih := floor_le r (mx fl (dHt b - 1))
    have h0 := ih _ List.mem_cons_self
    have e1 : fl ≤ mx fl (dHt b - 1) := by unfold mx; split <;> omega
    have e2 : dHt b - 1 ≤ mx fl (dHt b - 1) := by unfold mx; split <;> omega
    show y ≤ floorOf (mx fl (dHt b - 1)) r
    rw [List.map_cons] at h
    rcases List.mem_cons.mp h with rfl | h
    · omega
    rcases List.mem_cons.mp h with rfl | h
    · omega
    · exact ih y (List.mem_cons_of_mem _ h)
theorem cutV_take {xs : List V} {m : Nat} : cutV xs none (some (m : Int)) = xs.take m := by
  unfold cutV
  rw [HT.sIx_nat, HT.sIx_none, List.drop_zero, Nat.sub_zero]
  rcases Nat.le_total m xs.length with h | h
  · rw [Nat.min_eq_left h]
  · rw [Nat.min_eq_right h, List.take_of_length_le (Nat.le_refl _), List.take_of_length_le h]
theorem tp_but2 {C : Addr} {H H' : Hp} {p l : Addr} {xs : List V} {la fl : Int} (b : BalAt C H p l xs la fl) (u : But2 p l H H') : Tp H H' := fun a ys e => by
  obtain ⟨⟨dx, g⟩, gl⟩ := b
  exact u _ _ (ne_of e g (by intro z; cases z)) (ne_of e gl (by intro z; cases z)) e
theorem ok_law {C_Ballot : Addr} {C_BadBlock : Addr} {f : Addr} {fd : FuncData} (F : L2.Fun K "law" "law" s_law f fd) (T : Txt K mg C_Ballot C_BadBlock) : FnOk P w K mg base L2.CX0 5 f fd ["script"] (spLaw K) := by
  have c__law_cell := c__law_cell (P := P) (w := w) (base := base) T
  have c__law_draws := c__law_draws (P := P) (w := w) (base := base) T
  have c__law_block := c__law_block (P := P) (w := w) (base := base) T
  have c__law_recorded := c__law_recorded (P := P) (w := w) (base := base) T
  have k_Ballot := k_Ballot (P := P) (w := w) (base := base) T
  have m_Ballot__restore := m_Ballot__restore (P := P) (w := w) (base := base) T
  have m_Ballot__blocks := m_Ballot__blocks (P := P) (w := w) (base := base) T
  have m_Ballot__last := m_Ballot__last (P := P) (w := w) (base := base) T
  have m_Ballot__floor := m_Ballot__floor (P := P) (w := w) (base := base) T
  refine F.ok sc_law (fun vs H Q E h => ?_) (fun cdv A outer s H vs Q E hr h => ?_)
  · obtain ⟨a, ns, rfl, _⟩ := h; rfl
  obtain ⟨a, ns, rfl, hS, hlen, q⟩ := h
  refine ⟨_, (pss_cons (ps_set (i := 1) sc_law.nd rfl (Or.inl rfl) (pe_c c__law_draws hr (by decide) (by rfl) (pa_cons (pv 0) (pa_cons pe_int (pa_cons pe_int pa_nil)))))
      (pss_cons (ps_set (i := 2) sc_law.nd rfl (Or.inl rfl) pe_int)
      (pss_cons (ps_set (i := 3) sc_law.nd rfl (Or.inl rfl) (pe_lst pa_nil))
      (pss_cons (ps_set (i := 4) sc_law.nd rfl (Or.inl rfl) (pe_op op_mod (pe_c c__law_cell hr (by decide) (by rfl) (pa_cons (pv 0) (pa_cons pe_int pa_nil))) pe_int))
      (pss_cons (ps_for PassesOwn.never rfl (pi_list (pe_slice (ksll (K := K)) (pv 1) po_none (po_some (pv 4)))) (pg_name (i := 5) sc_law.nd rfl (Or.inl rfl)) (pss_cons (ps_set (i := 2) sc_law.nd rfl (Or.inl rfl) (pe_op op_add (pe_op op_add (pv 2) pe_int) (pe_op op_mod (pe_op op_fdiv (pv 5) pe_int) pe_int)))
      (pss_one (ps_expr (pe_bm PySem.F.plainAttrs_list PySem.F.slot_list_append PySem.F.type_list_append mt_append (pv 3) (pa_cons (pe_c c__law_block hr (by decide) (by rfl) (pa_cons (pv 5) (pa_cons (pv 2) pa_nil))) pa_nil))))))
      (pss_cons (ps_set (i := 6) sc_law.nd rfl (Or.inl rfl) (pe_callTy call_list_of (by rfl) T.z_list (by decide +kernel) (pa_cons (pv 3) pa_nil)))
      (pss_cons (ps_set (i := 7) sc_law.nd rfl (Or.inl rfl) (pe_mk k_Ballot hr (by decide) (by rfl) (pa_cons (pv 3) pa_nil)))
      (pss_cons (ps_set (i := 8) sc_law.nd rfl (Or.inl rfl) (pe_callB (cr_max rfl) (by rfl) T.z_max (by decide +kernel) (pa_cons (pe_op op_cat (pe_lst (pa_cons pe_int pa_nil)) (pe_lc (own := [("block", 9)]) (g := gName 9) (by rfl) sc_law.nd (pi_list (pv 3)) (blkOk_by (own := [("block", 9)]) (N := ["script", "draws", "epoch", "given", "first", "draw", "copy", "ballot", "floor", "block", "fine", "told"]) (sc := defScope s_law) (by decide +kernel)) (fun _ _ _ _ _ => pg_name (i := 9) sc_law.nd rfl (Or.inl rfl)) (fun _ _ _ _ _ => pts_nil) (fun _ _ _ _ _ => (pe_op op_sub (pe_ix (kixt (K := K)) (pv 9) pe_int (fun _ _ => rfl)) pe_int)))) pa_nil)))
      (pss_cons (ps_for PassesOwn.never rfl (pi_list (pe_slice (ksll (K := K)) (pv 1) (po_some (pv 4)) po_none)) (pg_name (i := 5) sc_law.nd rfl (Or.inl rfl)) (pss_cut (ps_if (pt_cmpR op_eq (pe_op op_mod (pv 5) pe_int) pe_int (nomark _)) (pss_cons (ps_expr (pe_mt m_Ballot__restore hr (by decide) (pv 7) (pa_cons (pe_op op_mod (pe_op op_fdiv (pv 5) pe_int) pe_int) (pa_cons (pe_op op_mod (pe_op op_fdiv (pv 5) pe_int) pe_int) pa_nil))))
      (pss_cons (ps_set (i := 2) sc_law.nd rfl (Or.inl rfl) (pe_callB (call_max2 rfl) (by rfl) T.z_max (by decide +kernel) (pa_cons (pv 2) (pa_cons (pe_op op_mod (pe_op op_fdiv (pv 5) pe_int) pe_int) pa_nil))))
      (pss_one (ps_set (i := 8) sc_law.nd rfl (Or.inl rfl) (pe_callB (call_max2 rfl) (by rfl) T.z_max (by decide +kernel) (pa_cons (pv 8) (pa_cons (pe_op op_mod (pe_op op_fdiv (pv 5) pe_int) pe_int) pa_nil))))))) (pss_cons (ps_set (i := 9) sc_law.nd rfl (Or.inl rfl) (pe_c c__law_block hr (by decide) (by rfl) (pa_cons (pe_op op_fdiv (pv 5) pe_int) (pa_cons (pe_callB (call_max2 rfl) (by rfl) T.z_max (by decide +kernel) (pa_cons pe_int (pa_cons (pe_op op_sub (pe_op op_add (pv 2) pe_int) (pe_op op_mod (pe_op op_fdiv (pv 5) pe_int) pe_int)) pa_nil))) pa_nil))))
      (pss_cons (ps_set (i := 10) sc_law.nd rfl (Or.inl rfl) (pe_cmpR op_gt (pe_ix (kixt (K := K)) (pv 9) pe_int (fun _ _ => rfl)) (pv 2) (nomark _)))
      (pss_cons (ps_if (pt_cmpR op_ne (pe_c c__law_recorded hr (by decide) (by rfl) (pa_cons (pv 7) (pa_cons (pv 9) pa_nil))) (pv 10) (nomark _)) (pss_one (ps_ret pe_bl)) pss_nil)
      (pss_one (ps_if (pt_val (pv 10)) (pss_cons (ps_expr (pe_bm PySem.F.plainAttrs_list PySem.F.slot_list_append PySem.F.type_list_append mt_append (pv 6) (pa_cons (pv 9) pa_nil)))
      (pss_cons (ps_set (i := 2) sc_law.nd rfl (Or.inl rfl) (pe_ix (kixt (K := K)) (pv 9) pe_int (fun _ _ => rfl)))
      (pss_one (ps_set (i := 8) sc_law.nd rfl (Or.inl rfl) (pe_callB (call_max2 rfl) (by rfl) T.z_max (by decide +kernel) (pa_cons (pv 8) (pa_cons (pe_op op_sub (pe_ix (kixt (K := K)) (pv 9) pe_int (fun _ _ => rfl)) pe_int) pa_nil))))))) pss_nil))))))
      (pss_cons (ps_set (i := 11) sc_law.nd rfl (Or.inl rfl) (pe_mt0 m_Ballot__blocks hr (by decide) (pv 7)))
      (pss_cons (ps_if (PW.pt (pw_or (pt_cmpR op_ne (pe_mt0 m_Ballot__last hr (by decide) (pv 7)) (pv 2) (nomark _)) (pw_or (pt_cmpR op_ne (pe_mt0 m_Ballot__floor hr (by decide) (pv 7)) (pv 8) (nomark _)) (pw_or (pt_cmpR (op_neD hr.units) (pv 11) (pv 6) (nomark _)) (pw_or1 (pt_not (pt_val (pe_callB (kisi (K := K)) (by rfl) T.z_isinstance (by decide +kernel) (pa_cons (pv 11) (pa_cons (pe_bltn (v := .ty "list") (by rfl) T.z_list (by decide +kernel) rfl) pa_nil)))))))))) (pss_one (ps_ret pe_bl)) pss_nil)
      (pss_one (ps_expr (pe_bm PySem.F.plainAttrs_list PySem.F.slot_list_append PySem.F.type_list_append mt_append (pv 11) (pa_cons pe_non pa_nil))))))))
      (pss_one (ps_ret (pe_and (pe_cmpR (op_eqD hr.units) (pe_mt0 m_Ballot__blocks hr (by decide) (pv 7)) (pv 6) (nomark _)) (pe_one (pe_cmpR op_eq (pe_callB (klen (K := K)) (by rfl) T.z_len (by decide +kernel) (pa_cons (pv 3) pa_nil)) (pe_callB (call_min2 rfl) (by rfl) T.z_min (by decide +kernel) (pa_cons (pv 4) (pa_cons (pe_callB (klen (K := K)) (by rfl) T.z_len (by decide +kernel) (pa_cons (pv 1) pa_nil)) pa_nil))) (nomark _))))))))))))))), ?_⟩
  walk_at "rds"
  refine ⟨a, ns, 1, 30, rfl, hS, hlen, fun H1 D ds s1 hD0 hD hrg hdl => ?_⟩
  walk_at "rds"
  intro G hG
  walk_at "rds"
  refine ⟨a, ns, 0, rfl, (s1.trans (same_upd hG)).seq hS, ?_⟩
  have hc0 := cellA_nonneg ns 0
  generalize cellA ns 0 = c at hc0
  walk_at "rds"
  obtain ⟨k, hk⟩ := Int.eq_ofNat_of_zero_le (show 0 ≤ c % 5 by omega)
  have hk5 : k < 5 := by omega
  refine ⟨D, _, rfl, sq ((same_upd hG) _ _ hD), fun S1 hS1 => ?_⟩
  have ecut : cutV (ds.map V.int) none (some (c % 5)) = (ds.take k).map V.int := by rw [hk, cutV_take, List.map_take]
  have hS1' : ∀ (Z : List V), upd (upd H1 G (.lst [])) S1 (.lst Z) S1 = some (.lst Z) := fun Z => upd_same
  have hS1 := hS1
  have hGS : G ≠ S1 := ne_of_none upd_same hS1
  have hDG : D ≠ G := ne_of_none hD hG
  have s2 : Same H (upd (upd H1 G (.lst [])) S1 (.lst (cutV (ds.map V.int) none (some (c % 5))))) := (s1.trans (same_upd hG)).trans (same_upd hS1)
  have hD2 : upd (upd H1 G (.lst [])) S1 (.lst (cutV (ds.map V.int) none (some (c % 5)))) D = some (.lst (ds.map V.int)) := (same_upd hS1) _ _ ((same_upd hG) _ _ hD)
  have hG2 : upd (upd H1 G (.lst [])) S1 (.lst (cutV (ds.map V.int) none (some (c % 5)))) G = some (.lst []) := (same_upd hS1) _ _ upd_same
  have hT2 : upd (upd H1 G (.lst [])) S1 (.lst (cutV (ds.map V.int) none (some (c % 5)))) S1 = some (.lst ((ds.take k).map V.int)) := by rw [upd_same, ecut]
  have hG0 : H G = none := same_none s1 hG
  refine ⟨S1, rfl, ⟨_, sq hT2⟩, ?_⟩
  generalize upd (upd H1 G (.lst [])) S1 (.lst (cutV (ds.map V.int) none (some (c % 5)))) = H2 at s2 hD2 hG2 hT2
  refine for_it (walk_list (K := K) (a := S1) (xs := (ds.take k).map V.int)) (Pv := fun i σ H' => ∃ y5 y9 xs bs, σ = [some (.ref a), some (.ref D), some (.int (lastOf 0 bs)), some (.ref G), some (.int (c % 5)), y5, none, none, none, y9, none, none] ∧ Same H H' ∧ H' D = some (.lst (ds.map V.int)) ∧ H' S1 = some (.lst ((ds.take k).map V.int)) ∧ H' G = some (.lst xs) ∧ DtAll K H' none xs bs ∧ (∀ b ∈ bs, isBd b = true) ∧ ascE 0 bs ∧ 0 ≤ lastOf 0 bs ∧ xs.length = i) ⟨none, none, [], [], rfl, s2, hD2, hT2, hG2, .nil, (fun _ m => nomatch m), trivial, by decide, rfl⟩ (fun i σ H' _ h => by obtain ⟨_, _, _, _, _, _, _, h, _⟩ := h; exact sq h) (fun i x σ H3 H4 hi hp' hy => ?_) (fun σ H3 hp' => ?_)
  · obtain ⟨y5, y9, xs, bs, rfl, sm, hD, hT, hGl, hx, hb, has, hla, hxl⟩ := hp'
    obtain ⟨rfl, gx⟩ := hy
    rw [List.length_map] at hi
    have hik : i < ds.length := by rw [List.length_take] at hi; omega
    rw [List.getElem?_map, List.getElem?_eq_getElem hi] at gx
    obtain rfl : V.int (ds.take k)[i] = x := Option.some.inj gx
    have hdi := hrg _ (List.mem_of_mem_take (List.getElem_mem hi))
    generalize (ds.take k)[i] = dr at hdi
    walk_at "rds"
    refine ⟨.inl ⟨rfl, _, sq hGl⟩, ?_⟩
    walk_at "rds"
    refine ⟨dr, lastOf 0 bs + 1 + dr / 512 % 3, rfl, hdi.1, by omega, fun H5 x p h s5 hxd => ?_⟩
    have hx2 : DtAll K H5 none (xs ++ [x]) (bs ++ [bd (lastOf 0 bs + 1 + dr / 512 % 3) p h]) := (hx.on s5).snoc hxd
    have hb2 : ∀ b ∈ bs ++ [bd (lastOf 0 bs + 1 + dr / 512 % 3) p h], isBd b = true := fun z hz => by
      rcases List.mem_append.mp hz with hz | hz
      · exact hb z hz
      · rw [List.mem_singleton.mp hz]; rfl
    have hG5 := s5 _ _ hGl
    walk_at "rds"
    refine ⟨G, xs, x, rfl, rfl, hG5, sz1000' (by omega), ?_⟩
    have el : lastOf 0 (bs ++ [bd (lastOf 0 bs + 1 + dr / 512 % 3) p h]) = lastOf 0 bs + 1 + dr / 512 % 3 := by rw [lastOf_snoc]; rfl
    refine ⟨_, _, xs ++ [x], bs ++ [bd (lastOf 0 bs + 1 + dr / 512 % 3) p h], by rw [el]; rfl, same_mut (sm.trans s5) hG0, ?_, ?_, upd_same, DtAll.keep (tp_put hG5) _ _ (isBd_noLs hb2) hx2, hb2, ascE_snoc bs has (by show lastOf 0 bs < lastOf 0 bs + 1 + dr / 512 % 3; omega), by rw [el]; omega, by rw [List.length_append, List.length_singleton, hxl]⟩
    · rw [upd_ne hDG]; exact s5 _ _ hD
    · rw [upd_ne hGS.symm]; exact s5 _ _ hT
  obtain ⟨y5, y9, xs, bs, rfl, sm, hD, hT, hGl, hx, hb, has, hla, hxl⟩ := hp'
  rw [List.length_map, List.length_take] at hxl
  walk_at "rds"
  refine ⟨G, xs, rfl, .inl (sq hGl), fun Cp hCp => ?_⟩
  walk_at "rds"
  intro Bp dx hBp hdx hne
  have hG3 := (same_upd (o := .lst xs) hCp) _ _ hGl
  have hGB : G ≠ Bp := ne_of_none hG3 hBp
  have hGd : G ≠ dx := ne_of_none hG3 hdx
  have sM : Same (upd H3 Cp (.lst xs)) (upd (upd (upd H3 Cp (.lst xs)) dx (.own Bp)) Bp (.ins C_Ballot dx [])) := (same_upd hdx).trans (same_upd (by rw [upd_ne hne.symm]; exact hBp))
  refine ⟨Bp, dx, G, xs, bs, rfl, upd_same, by rw [upd_ne hGB, upd_ne hGd]; exact hG3, (hx.on (same_upd hCp)).on sM, fun b m => isBd_b4 (hb b m), isBd_noLs hb, by omega, has, fun H4 l kp hl hbal => ⟨rfl, ?_⟩⟩
  have s4 : Same (upd H3 Cp (.lst xs)) H4 := Same.made hBp hdx kp
  have hC4 := s4 _ _ (upd_same : upd H3 Cp (.lst xs) Cp = some (.lst xs))
  have hG4 := s4 _ _ hG3
  have hx4 := (hx.on (same_upd hCp)).on s4
  have hl3 : upd H3 Cp (.lst xs) l = none := same_none sM hl
  have hCl : Cp ≠ l := ne_of_none upd_same hl3
  have hCB : Cp ≠ Bp := ne_of_none upd_same hBp
  have hD4 := s4 _ _ ((same_upd (o := .lst xs) hCp) _ _ hD)
  have hDl : D ≠ l := ne_of_none ((same_upd (o := .lst xs) hCp) _ _ hD) hl3
  have hDB : D ≠ Bp := ne_of_none ((same_upd (o := .lst xs) hCp) _ _ hD) hBp
  have hDC : D ≠ Cp := ne_of_none hD hCp
  have hGl' : G ≠ l := ne_of_none hG3 hl3
  have hGC : G ≠ Cp := ne_of_none hGl hCp
  have hC0 : H Cp = none := same_none sm hCp
  have hB0 : H Bp = none := same_none (sm.trans (same_upd hCp)) hBp
  have hl0 : H l = none := same_none (sm.trans (same_upd hCp)) hl3
  have sH4 : Same H H4 := (sm.trans (same_upd hCp)).trans s4
  have hBl := hbal.ne
  walk_at "rds"
  intro Z hZ
  have sZ : Same H4 (upd H4 Z (.lst [.int 0])) := same_upd hZ
  have hZ1 : upd H4 Z (.lst [.int 0]) Z = some (.lst [.int 0]) := upd_same
  generalize upd H4 Z (.lst [.int 0]) = H5 at sZ hZ1
  walk_at "rds"
  refine ⟨⟨xs, sq (sZ _ _ hG4)⟩, fun Y hY => ?_⟩
  refine lc_it (walk_list (K := K) (a := G) (xs := xs)) (Pv := fun i H' => Same H5 H' ∧ H' Y = some (.lst (((bs.take i).map (fun b => dHt b - 1)).map V.int))) ⟨same_upd hY, upd_same⟩ (fun _ _ _ h => sq (h.1 _ _ (sZ _ _ hG4))) (fun i x H6 H7 hi hp hy => ?_) (fun H6 hp => ?_)
  · obtain ⟨s6, hY6⟩ := hp
    obtain ⟨rfl, gx⟩ := hy
    obtain ⟨d, gd, hdx⟩ := hx4.get gx
    obtain ⟨t, x2, x4, rfl, ht⟩ := (hdx.on (sZ.trans s6)).b4 (isBd_b4 (hb d (List.mem_of_getElem? gd)))
    refine ⟨rfl, tyes ?_⟩
    walk_at "rds"
    refine ⟨t, _, 2, _, rfl, rfl, ht.sq, atI_nat (j := 2) rfl, ?_⟩
    walk_at "rds"
    refine ⟨_, hY6, by rw [List.length_map, List.length_map, List.length_take]; exact sz1000' (by omega), same_mut s6 hY, ?_⟩
    rw [upd_same, List.take_add_one, gd, Option.toList_some, List.map_append, List.map_append]
    rfl
  obtain ⟨s6, hY6⟩ := hp
  rw [List.take_of_length_le (by rw [← hx4.length]; exact Nat.le_refl _)] at hY6
  refine ⟨Z, Y, [.int 0], _, rfl, rfl, s6 _ _ hZ1, hY6, by rw [List.length_map, List.length_map, ← hx4.length]; exact sz1000 (by show 1 + xs.length ≤ 100000; omega), fun M hM => ?_⟩
  walk_at "rds"
  refine ⟨M, 0 :: bs.map (fun b => dHt b - 1), rfl, sq upd_same, by simp, fun m hm hle => ?_⟩
  have em : m = floorOf 0 bs := Int.le_antisymm (floor_le bs 0 m hm) (hle _ (floor_mem bs 0))
  subst em
  walk_at "rds"
  refine ⟨D, ds.map V.int, rfl, sq ((same_upd hM) _ _ (s6 _ _ (sZ _ _ hD4))), fun S2 hS2 => ?_⟩
  obtain ⟨es, ees, hesl, hes⟩ := cutV_map V.int ds (some (c % 5)) none
  have ees : cutV (ds.map V.int) (some (c % 5)) none = es.map V.int := ees
  have s7 : Same H4 (upd (upd H6 M (.lst ([.int 0] ++ (bs.map (fun b => dHt b - 1)).map V.int))) S2 (.lst (cutV (ds.map V.int) (some (c % 5)) none))) := ((sZ.trans s6).trans (same_upd hM)).trans (same_upd hS2)
  have hS27 : upd (upd H6 M (.lst ([.int 0] ++ (bs.map (fun b => dHt b - 1)).map V.int))) S2 (.lst (cutV (ds.map V.int) (some (c % 5)) none)) S2 = some (.lst (es.map V.int)) := by rw [upd_same, ees]
  have hS24 : H4 S2 = none := same_none ((sZ.trans s6).trans (same_upd hM)) hS2
  refine ⟨S2, rfl, ⟨_, sq hS27⟩, ?_⟩
  generalize upd (upd H6 M (.lst ([.int 0] ++ (bs.map (fun b => dHt b - 1)).map V.int))) S2 (.lst (cutV (ds.map V.int) (some (c % 5)) none)) = Hb at s7 hS27
  have hSC : S2 ≠ Cp := fun e => by rw [e, hC4] at hS24; cases hS24
  have hSB : S2 ≠ Bp := fun e => by rw [e, hbal.1.choose_spec] at hS24; cases hS24
  have hSl : S2 ≠ l := fun e => by rw [e, hbal.2] at hS24; cases hS24
  have hxl2 : xs.length ≤ 30 := by omega
  refine for_it (walk_list (K := K) (a := S2) (xs := es.map V.int)) (Pv := fun i σ H' => ∃ y5 y9 y10 y11 ep fl ys cs, σ = [some (.ref a), some (.ref D), some (.int ep), some (.ref G), some (.int (c % 5)), y5, some (.ref Cp), some (.ref Bp), some (.int fl), y9, y10, y11] ∧ (∀ b o, b ≠ Bp → b ≠ l → b ≠ Cp → Hb b = some o → H' b = some o) ∧ BalAt C_Ballot H' Bp l ys ep fl ∧ H' Cp = some (.lst ys) ∧ DtAll K H' none ys cs ∧ (∀ b ∈ cs, isBd b = true) ∧ 0 ≤ ep ∧ ys.length ≤ 30 + i)
      ⟨y5, y9, none, none, lastOf 0 bs, floorOf 0 bs, xs, bs, rfl, fun _ _ _ _ _ h => h, hbal.same s7, s7 _ _ hC4, hx4.on s7, hb, hla, by omega⟩
      (fun i σ H' _ h => by obtain ⟨_, _, _, _, _, _, _, _, _, h, _⟩ := h; exact sq (h _ _ hSB hSl hSC hS27)) (fun i x σ H7 H8 hi hp' hy => ?_) (fun σ H7 hp' => ?_)
  · obtain ⟨z5, z9, z10, z11, ep, fl, ys, cs, rfl, kp, bal, hCp', hy', hcb, hep, hyl⟩ := hp'
    obtain ⟨rfl, gx⟩ := hy
    rw [List.length_map] at hi
    rw [List.getElem?_map, List.getElem?_eq_getElem hi] at gx
    obtain rfl : V.int es[i] = x := Option.some.inj gx
    have hdi := hrg _ (hes _ (List.getElem_mem hi))
    generalize es[i] = dr at hdi
    walk_at "rds"
    refine ⟨fun σ' H' => ∃ y9 y10 y11 ep fl ys cs, σ' = [some (.ref a), some (.ref D), some (.int ep), some (.ref G), some (.int (c % 5)), some (.int dr), some (.ref Cp), some (.ref Bp), some (.int fl), y9, y10, y11] ∧ (∀ b o, b ≠ Bp → b ≠ l → b ≠ Cp → Hb b = some o → H' b = some o) ∧ BalAt C_Ballot H' Bp l ys ep fl ∧ H' Cp = some (.lst ys) ∧ DtAll K H' none ys cs ∧ (∀ b ∈ cs, isBd b = true) ∧ 0 ≤ ep ∧ ys.length ≤ 30 + (i + 1), ?_, ?_⟩
    · walk_at "rds"
      obtain ⟨⟨dx3, g3⟩, gl3⟩ := id bal
      have hCn : Cp ≠ Bp := hCB
      refine ite2 (fun _ => ?_) (fun _ => ?_)
      · walk_at "rds"
        refine ⟨Bp, dx3, _, rfl, g3, rfl, ?_⟩
        walk_at "rds"
        refine ⟨Bp, l, dr / 7 % 40, dr / 280 % 12, ys, ep, fl, rfl, bal, fun H9 k9 b9 => ?_⟩
        walk_at "rds"
        refine ⟨_, _, rfl, ?_⟩
        walk_at "rds"
        refine ⟨_, _, rfl, ?_⟩
        refine ⟨_, _, _, mx ep (dr / 7 % 40), mx fl (dr / 280 % 12), ys, cs, rfl, fun b o n1 n2 n3 e => k9 _ _ (kp _ _ n1 n2 n3 e) n1, b9, k9 _ _ hCp' hCn, DtAll.keep (fun a zs e => k9 _ _ e (ne_of e g3 (by intro z; cases z))) _ _ (isBd_noLs hcb) hy', hcb, by unfold mx; split <;> omega, by omega⟩
      · walk_at "rds"
        refine ⟨_, _, rfl, ?_⟩
        walk_at "rds"
        have he1 : 1 ≤ (if ep + 2 - dr / 7 % 4 > 1 then ep + 2 - dr / 7 % 4 else 1) := by split <;> omega
        generalize (if ep + 2 - dr / 7 % 4 > 1 then ep + 2 - dr / 7 % 4 else 1) = e1 at he1
        refine ⟨dr / 7, e1, rfl, by omega, he1, fun H9 x p h s9 hxd => ?_⟩
        obtain ⟨t, x2, x4, rfl, ht⟩ := hxd.b4 rfl
        have ht : TupAt K H9 t [.int e1, x2, .int h, x4] := ht
        walk_at "rds"
        refine ⟨t, _, 0, _, rfl, rfl, ht.sq, atI_nat (j := 0) rfl, ?_⟩
        walk_at "rds"
        have bal9 := bal.same s9
        refine ⟨Bp, l, .ref t, bd e1 p h, ys, ep, fl, rfl, bal9, hxd, rfl, by omega, fun e H10 bu b10 => ?_, fun e => ?_⟩
        · have e : ep < e1 := e
          walk_at "rds"
          refine ifF ?_ ?_
          · show (!decide (V.bl true = V.bl (decide (e1 > ep)))) = false
            rw [show decide (e1 > ep) = true from decide_eq_true e]; decide
          walk_at "rds"
          refine ifT (decide_eq_true e) ?_
          have hC10 := bu _ _ hCn hCl (s9 _ _ hCp')
          have hx10 : DtAll K H10 none (ys ++ [.ref t]) (cs ++ [bd e1 p h]) := DtAll.keep (tp_but2 bal9 bu) _ _ (isBd_noLs (fun z hz => by
            rcases List.mem_append.mp hz with hz | hz
            · exact hcb z hz
            · rw [List.mem_singleton.mp hz]; rfl)) ((hy'.on s9).snoc hxd)
          have hcb10 : ∀ b ∈ cs ++ [bd e1 p h], isBd b = true := fun z hz => by
            rcases List.mem_append.mp hz with hz | hz
            · exact hcb z hz
            · rw [List.mem_singleton.mp hz]; rfl
          have ht10 := ht.tp (tp_but2 bal9 bu)
          walk_at "rds"
          refine ⟨.inl ⟨rfl, _, sq hC10⟩, ?_⟩
          walk_at "rds"
          refine ⟨Cp, ys, _, rfl, rfl, hC10, sz1000' (by omega), ?_⟩
          have ht11 := ht10.tp (tp_put (ys := ys ++ [.ref t]) hC10)
          walk_at "rds"
          refine ⟨t, _, 0, _, rfl, rfl, ht11.sq, atI_nat (j := 0) rfl, ?_⟩
          walk_at "rds"
          refine ⟨t, _, 2, _, rfl, rfl, ht11.sq, atI_nat (j := 2) rfl, ?_⟩
          walk_at "rds"
          refine ⟨_, _, rfl, ?_⟩
          refine ⟨_, _, _, e1, mx fl (h - 1), ys ++ [.ref t], cs ++ [bd e1 p h], rfl, fun b o n1 n2 n3 e => by rw [upd_ne n3]; exact bu _ _ n1 n2 (s9 _ _ (kp _ _ n1 n2 n3 e)), ?_, upd_same, DtAll.keep (tp_put hC10) _ _ (isBd_noLs hcb10) hx10, hcb10, by omega, by rw [List.length_append, List.length_singleton]; omega⟩
          obtain ⟨⟨dx5, g5⟩, gl5⟩ := b10
          exact ⟨⟨dx5, by rw [upd_ne hCB.symm]; exact g5⟩, by rw [upd_ne hCl.symm]; exact gl5⟩
        · have e : e1 ≤ ep := e
          walk_at "rds"
          refine ifF ?_ ?_
          · show (!decide (V.bl false = V.bl (decide (e1 > ep)))) = false
            rw [show decide (e1 > ep) = false from decide_eq_false (by omega)]; decide
          walk_at "rds"
          refine ifF (decide_eq_false (by omega)) ?_
          exact ⟨_, _, _, ep, fl, ys, cs, rfl, fun b o n1 n2 n3 e => s9 _ _ (kp _ _ n1 n2 n3 e), bal9, s9 _ _ hCp', hy'.on s9, hcb, hep, by omega⟩
    · rintro σ' H9 ⟨z9, z10, z11, ep, fl, ys, cs, rfl, kp, bal, hCp', hy', hcb, hep, hyl⟩
      obtain ⟨⟨dx3, g3⟩, gl3⟩ := id bal
      walk_at "rds"
      refine ⟨Bp, dx3, _, rfl, g3, rfl, ?_⟩
      walk_at "rds"
      refine ⟨Bp, l, ys, ep, fl, rfl, bal, fun r hr => ?_⟩
      have s9 : Same H9 (upd H9 r (.lst ys)) := same_upd hr
      have hr9 : upd H9 r (.lst ys) r = some (.lst ys) := upd_same
      have bal9 := bal.same s9
      obtain ⟨⟨dx4, g4⟩, gl4⟩ := id bal9
      walk_at "rds"
      refine ⟨Bp, dx4, _, rfl, g4, rfl, ?_⟩
      walk_at "rds"
      refine ⟨Bp, l, ys, ep, fl, rfl, bal9, ?_⟩
      walk_at "rds"
      refine ifF (by show (!decide (V.int ep = V.int ep)) = false; rw [decide_eq_true rfl]; rfl) ?_
      walk_at "rds"
      refine ⟨Bp, dx4, _, rfl, g4, rfl, ?_⟩
      walk_at "rds"
      refine ⟨Bp, l, ys, ep, fl, rfl, bal9, ?_⟩
      walk_at "rds"
      refine ifF (by show (!decide (V.int fl = V.int fl)) = false; rw [decide_eq_true rfl]; rfl) ?_
      walk_at "rds"
      obtain ⟨sh, ev⟩ := shaped_bds hcb
      refine ⟨.list cs, .list cs, .lst (sq hr9) (DtAll.dp _ _ (hy'.on s9)), .lst (sq (s9 _ _ hCp')) (DtAll.dp _ _ (hy'.on s9)), sh, sh, ?_⟩
      rw [ev]
      walk_at "rds"
      walk_at "isi"
      walk_at "rds"
      refine ⟨.inl ⟨rfl, _, sq hr9⟩, ?_⟩
      walk_at "rds"
      refine ⟨r, ys, _, rfl, rfl, hr9, sz1000' (by omega), ?_⟩
      have s11 : Same H9 (upd (upd H9 r (.lst ys)) r (.lst (ys ++ [.non]))) := same_mut s9 hr
      exact ⟨_, _, _, _, ep, fl, ys, cs, rfl, fun b o n1 n2 n3 e => s11 _ _ (kp _ _ n1 n2 n3 e), bal.same s11, s11 _ _ hCp', hy'.on s11, hcb, hep, hyl⟩
  · obtain ⟨z5, z9, z10, z11, ep, fl, ys, cs, rfl, kp, bal, hCp', hy', hcb, hep, hyl⟩ := hp'
    obtain ⟨⟨dx3, g3⟩, gl3⟩ := id bal
    walk_at "rds"
    refine ⟨Bp, dx3, _, rfl, g3, rfl, ?_⟩
    walk_at "rds"
    refine ⟨Bp, l, ys, ep, fl, rfl, bal, fun r hr => ?_⟩
    have s9 : Same H7 (upd H7 r (.lst ys)) := same_upd hr
    have hr9 : upd H7 r (.lst ys) r = some (.lst ys) := upd_same
    walk_at "rds"
    obtain ⟨sh, ev⟩ := shaped_bds hcb
    refine ⟨.list cs, .list cs, .lst (sq hr9) (DtAll.dp _ _ (hy'.on s9)), .lst (sq (s9 _ _ hCp')) (DtAll.dp _ _ (hy'.on s9)), sh, sh, ?_⟩
    rw [ev]
    walk_at "rds"
    have hG7 := s9 _ _ (kp _ _ hGB hGl' hGC (s7 _ _ hG4))
    have hD7 := s9 _ _ (kp _ _ hDB hDl hDC (s7 _ _ hD4))
    refine ⟨G, xs, rfl, .inl (sq hG7), ?_⟩
    walk_at "rds"
    refine ⟨D, _, rfl, .inl (sq hD7), ?_⟩
    walk_at "rds"
    refine ⟨_, _, rfl, ?_⟩
    walk_at "rds"
    have ef : decide (V.int (xs.length : Int) = V.int (if ((ds.map V.int).length : Int) < c % 5 then ((ds.map V.int).length : Int) else c % 5)) = true := by
      refine decide_eq_true (congrArg V.int ?_)
      rw [List.length_map]
      split <;> omega
    show Q (.bl (decide (V.int (xs.length : Int) = V.int (if ((ds.map V.int).length : Int) < c % 5 then ((ds.map V.int).length : Int) else c % 5)))) _
    rw [ef]
    exact q _
end

theorem fin {C_Ballot : Addr} {C_BadBlock : Addr} {P : Program} {w : World} {K : PySem.W.Frag} {mg : Str → Option Value} {fa : Addr} (hfa : mg "law" = some (.ref fa)) (T : Txt K mg C_Ballot C_BadBlock) :
    ∃ fd : FuncData, (∀ (s : Shared) (u : Value), BindsTo s fd ⟨[u], []⟩ [("script", u)]) ∧ ∀ base : Heap, K.In base → base.Ns mainGlobals mg → FnOk P w K mg base L2.CX0 5 fa fd ["script"] (spLaw K) := by
  obtain ⟨f, fd, F, hm, b⟩ := T.d_law.ex
  cases hfa.symm.trans hm
  refine ⟨fd, fun s u => ?_, fun base _ _ => ok_law F T⟩
  obtain ⟨oc, od, kV, doc, pm, an, cdv, ct, osl, rfl, l, _⟩ := F.ex
  exact .of_eq rfl

theorem all_mk {K : PySem.W.Frag} {h : Heap} {mg : Str → Option Value} (X : K.In h) (G : h.Ns mainGlobals mg)
    {f__law_cell : Addr} {od__law_cell an__law_cell : Option Addr} {sl__law_cell : Array (Option Value)} {oc__law_cell kV__law_cell dc__law_cell pm__law_cell cd__law_cell ct__law_cell : Value}
    {f__law_draws : Addr} {od__law_draws an__law_draws : Option Addr} {sl__law_draws : Array (Option Value)} {oc__law_draws kV__law_draws dc__law_draws pm__law_draws cd__law_draws ct__law_draws : Value}
    {f__law_block : Addr} {od__law_block an__law_block : Option Addr} {sl__law_block : Array (Option Value)} {oc__law_block kV__law_block dc__law_block pm__law_block cd__law_block ct__law_block : Value}
    {f__law_recorded : Addr} {od__law_recorded an__law_recorded : Option Addr} {sl__law_recorded : Array (Option Value)} {oc__law_recorded kV__law_recorded dc__law_recorded pm__law_recorded cd__law_recorded ct__law_recorded : Value}
    {f_law : Addr} {od_law an_law : Option Addr} {sl_law : Array (Option Value)} {oc_law kV_law dc_law pm_law cd_law ct_law : Value}
    {C_Ballot : Addr}
    {f_Ballot____init__ : Addr} {od_Ballot____init__ an_Ballot____init__ : Option Addr} {sl_Ballot____init__ : Array (Option Value)} {oc_Ballot____init__ kV_Ballot____init__ dc_Ballot____init__ pm_Ballot____init__ cd_Ballot____init__ ct_Ballot____init__ : Value}
    {f_Ballot__last : Addr} {od_Ballot__last an_Ballot__last : Option Addr} {sl_Ballot__last : Array (Option Value)} {oc_Ballot__last kV_Ballot__last dc_Ballot__last pm_Ballot__last cd_Ballot__last ct_Ballot__last : Value}
    {f_Ballot__floor : Addr} {od_Ballot__floor an_Ballot__floor : Option Addr} {sl_Ballot__floor : Array (Option Value)} {oc_Ballot__floor kV_Ballot__floor dc_Ballot__floor pm_Ballot__floor cd_Ballot__floor ct_Ballot__floor : Value}
    {f_Ballot__restore : Addr} {od_Ballot__restore an_Ballot__restore : Option Addr} {sl_Ballot__restore : Array (Option Value)} {oc_Ballot__restore kV_Ballot__restore dc_Ballot__restore pm_Ballot__restore cd_Ballot__restore ct_Ballot__restore : Value}
    {f_Ballot__record : Addr} {od_Ballot__record an_Ballot__record : Option Addr} {sl_Ballot__record : Array (Option Value)} {oc_Ballot__record kV_Ballot__record dc_Ballot__record pm_Ballot__record cd_Ballot__record ct_Ballot__record : Value}
    {f_Ballot__blocks : Addr} {od_Ballot__blocks an_Ballot__blocks : Option Addr} {sl_Ballot__blocks : Array (Option Value)} {oc_Ballot__blocks kV_Ballot__blocks dc_Ballot__blocks pm_Ballot__blocks cd_Ballot__blocks ct_Ballot__blocks : Value}
    {C_BadBlock : Addr}
    (a__law_cell : PySem.W.nsIn K mainGlobals "_law_cell" = some (some (.ref f__law_cell)))
    (l__law_cell : K.lookup f__law_cell = some ⟨oc__law_cell, od__law_cell, .func (PySem.W.fnOf "_law_cell" "_law_cell" (defArgs s__law_cell) (defBody s__law_cell) (defScope s__law_cell) .none kV__law_cell dc__law_cell pm__law_cell an__law_cell cd__law_cell ct__law_cell), sl__law_cell⟩)
    (e__law_cell : PySem.W.codeIn K cd__law_cell "_law_cell" = true)
    (k__law_cell : PySem.W.keepIn K (.ref f__law_cell) = true)
    (a__law_draws : PySem.W.nsIn K mainGlobals "_law_draws" = some (some (.ref f__law_draws)))
    (l__law_draws : K.lookup f__law_draws = some ⟨oc__law_draws, od__law_draws, .func (PySem.W.fnOf "_law_draws" "_law_draws" (defArgs s__law_draws) (defBody s__law_draws) (defScope s__law_draws) .none kV__law_draws dc__law_draws pm__law_draws an__law_draws cd__law_draws ct__law_draws), sl__law_draws⟩)
    (e__law_draws : PySem.W.codeIn K cd__law_draws "_law_draws" = true)
    (k__law_draws : PySem.W.keepIn K (.ref f__law_draws) = true)
    (a__law_block : PySem.W.nsIn K mainGlobals "_law_block" = some (some (.ref f__law_block)))
    (l__law_block : K.lookup f__law_block = some ⟨oc__law_block, od__law_block, .func (PySem.W.fnOf "_law_block" "_law_block" (defArgs s__law_block) (defBody s__law_block) (defScope s__law_block) .none kV__law_block dc__law_block pm__law_block an__law_block cd__law_block ct__law_block), sl__law_block⟩)
    (e__law_block : PySem.W.codeIn K cd__law_block "_law_block" = true)
    (k__law_block : PySem.W.keepIn K (.ref f__law_block) = true)
    (a__law_recorded : PySem.W.nsIn K mainGlobals "_law_recorded" = some (some (.ref f__law_recorded)))
    (l__law_recorded : K.lookup f__law_recorded = some ⟨oc__law_recorded, od__law_recorded, .func (PySem.W.fnOf "_law_recorded" "_law_recorded" (defArgs s__law_recorded) (defBody s__law_recorded) (defScope s__law_recorded) .none kV__law_recorded dc__law_recorded pm__law_recorded an__law_recorded cd__law_recorded ct__law_recorded), sl__law_recorded⟩)
    (e__law_recorded : PySem.W.codeIn K cd__law_recorded "_law_recorded" = true)
    (k__law_recorded : PySem.W.keepIn K (.ref f__law_recorded) = true)
    (a_law : PySem.W.nsIn K mainGlobals "law" = some (some (.ref f_law)))
    (l_law : K.lookup f_law = some ⟨oc_law, od_law, .func (PySem.W.fnOf "law" "law" (defArgs s_law) (defBody s_law) (defScope s_law) .none kV_law dc_law pm_law an_law cd_law ct_law), sl_law⟩)
    (e_law : PySem.W.codeIn K cd_law "law" = true)
    (k_law : PySem.W.keepIn K (.ref f_law) = true)
    (ac_Ballot : PySem.W.nsIn K mainGlobals "Ballot" = some (some (.ref C_Ballot)))
    (pg_Ballot : PySem.W.plainGet K C_Ballot Str.empty = true)
    (hd_Ballot : PySem.W.hasDictIn K C_Ballot = true)
    (po_Ballot : PySem.W.plainOver K C_Ballot = true)
    (sa_Ballot : PySem.W.findIn K (.ref C_Ballot) "__setattr__" = some (some (.builtin "object.__setattr__")))
    (mk_Ballot : PySem.W.makesIn K C_Ballot = true)
    (kc_Ballot : PySem.W.keepIn K (.ref C_Ballot) = true)
    (na_Ballot__blocks : PySem.W.findIn K (.ref C_Ballot) "_blocks" = some none)
    (na_Ballot__last : PySem.W.findIn K (.ref C_Ballot) "_last" = some none)
    (na_Ballot__floor : PySem.W.findIn K (.ref C_Ballot) "_floor" = some none)
    (a_Ballot____init__ : PySem.W.findIn K (.ref C_Ballot) "__init__" = some (some (.ref f_Ballot____init__)))
    (i_Ballot____init__ : PySem.W.isFn K (.ref f_Ballot____init__) = true)
    (l_Ballot____init__ : K.lookup f_Ballot____init__ = some ⟨oc_Ballot____init__, od_Ballot____init__, .func (PySem.W.fnOf "__init__" "Ballot.__init__" (defArgs s_Ballot____init__) (defBody s_Ballot____init__) (defScope s_Ballot____init__) .none kV_Ballot____init__ dc_Ballot____init__ pm_Ballot____init__ an_Ballot____init__ cd_Ballot____init__ ct_Ballot____init__), sl_Ballot____init__⟩)
    (e_Ballot____init__ : PySem.W.codeIn K cd_Ballot____init__ "Ballot.__init__" = true)
    (k_Ballot____init__ : PySem.W.keepIn K (.ref f_Ballot____init__) = true)
    (a_Ballot__last : PySem.W.findIn K (.ref C_Ballot) "last" = some (some (.ref f_Ballot__last)))
    (i_Ballot__last : PySem.W.isFn K (.ref f_Ballot__last) = true)
    (l_Ballot__last : K.lookup f_Ballot__last = some ⟨oc_Ballot__last, od_Ballot__last, .func (PySem.W.fnOf "last" "Ballot.last" (defArgs s_Ballot__last) (defBody s_Ballot__last) (defScope s_Ballot__last) .none kV_Ballot__last dc_Ballot__last pm_Ballot__last an_Ballot__last cd_Ballot__last ct_Ballot__last), sl_Ballot__last⟩)
    (e_Ballot__last : PySem.W.codeIn K cd_Ballot__last "Ballot.last" = true)
    (k_Ballot__last : PySem.W.keepIn K (.ref f_Ballot__last) = true)
    (a_Ballot__floor : PySem.W.findIn K (.ref C_Ballot) "floor" = some (some (.ref f_Ballot__floor)))
    (i_Ballot__floor : PySem.W.isFn K (.ref f_Ballot__floor) = true)
    (l_Ballot__floor : K.lookup f_Ballot__floor = some ⟨oc_Ballot__floor, od_Ballot__floor, .func (PySem.W.fnOf "floor" "Ballot.floor" (defArgs s_Ballot__floor) (defBody s_Ballot__floor) (defScope s_Ballot__floor) .none kV_Ballot__floor dc_Ballot__floor pm_Ballot__floor an_Ballot__floor cd_Ballot__floor ct_Ballot__floor), sl_Ballot__floor⟩)
    (e_Ballot__floor : PySem.W.codeIn K cd_Ballot__floor "Ballot.floor" = true)
    (k_Ballot__floor : PySem.W.keepIn K (.ref f_Ballot__floor) = true)
    (a_Ballot__restore : PySem.W.findIn K (.ref C_Ballot) "restore" = some (some (.ref f_Ballot__restore)))
    (i_Ballot__restore : PySem.W.isFn K (.ref f_Ballot__restore) = true)
    (l_Ballot__restore : K.lookup f_Ballot__restore = some ⟨oc_Ballot__restore, od_Ballot__restore, .func (PySem.W.fnOf "restore" "Ballot.restore" (defArgs s_Ballot__restore) (defBody s_Ballot__restore) (defScope s_Ballot__restore) .none kV_Ballot__restore dc_Ballot__restore pm_Ballot__restore an_Ballot__restore cd_Ballot__restore ct_Ballot__restore), sl_Ballot__restore⟩)
    (e_Ballot__restore : PySem.W.codeIn K cd_Ballot__restore "Ballot.restore" = true)
    (k_Ballot__restore : PySem.W.keepIn K (.ref f_Ballot__restore) = true)
    (a_Ballot__record : PySem.W.findIn K (.ref C_Ballot) "record" = some (some (.ref f_Ballot__record)))
    (i_Ballot__record : PySem.W.isFn K (.ref f_Ballot__record) = true)
    (l_Ballot__record : K.lookup f_Ballot__record = some ⟨oc_Ballot__record, od_Ballot__record, .func (PySem.W.fnOf "record" "Ballot.record" (defArgs s_Ballot__record) (defBody s_Ballot__record) (defScope s_Ballot__record) .none kV_Ballot__record dc_Ballot__record pm_Ballot__record an_Ballot__record cd_Ballot__record ct_Ballot__record), sl_Ballot__record⟩)
    (e_Ballot__record : PySem.W.codeIn K cd_Ballot__record "Ballot.record" = true)
    (k_Ballot__record : PySem.W.keepIn K (.ref f_Ballot__record) = true)
    (a_Ballot__blocks : PySem.W.findIn K (.ref C_Ballot) "blocks" = some (some (.ref f_Ballot__blocks)))
    (i_Ballot__blocks : PySem.W.isFn K (.ref f_Ballot__blocks) = true)
    (l_Ballot__blocks : K.lookup f_Ballot__blocks = some ⟨oc_Ballot__blocks, od_Ballot__blocks, .func (PySem.W.fnOf "blocks" "Ballot.blocks" (defArgs s_Ballot__blocks) (defBody s_Ballot__blocks) (defScope s_Ballot__blocks) .none kV_Ballot__blocks dc_Ballot__blocks pm_Ballot__blocks an_Ballot__blocks cd_Ballot__blocks ct_Ballot__blocks), sl_Ballot__blocks⟩)
    (e_Ballot__blocks : PySem.W.codeIn K cd_Ballot__blocks "Ballot.blocks" = true)
    (k_Ballot__blocks : PySem.W.keepIn K (.ref f_Ballot__blocks) = true)
    (xa_BadBlock : PySem.W.nsIn K mainGlobals "BadBlock" = some (some (.ref C_BadBlock)))
    (xe_BadBlock : PySem.W.excIn K C_BadBlock [.type "ValueError", .type "Exception", .type "BaseException", .type "object"] "ValueError.__new__" = true)
    (xk_BadBlock : PySem.W.keepIn K (.ref C_BadBlock) = true)
    (xb_BadBlock : PySem.W.subIn K (.ref C_BadBlock) (.type "BaseException") = some true)
    (xt_BadBlock : PySem.W.typeIn K (.ref C_BadBlock) = some (.type "type"))
    (xh_BadBlock : PySem.W.hasDictIn K C_BadBlock = true)
    (u_BadBlock_BadBlock : PySem.W.subIn K (.ref C_BadBlock) (.ref C_BadBlock) = some true)
    (z_abs : PySem.W.nsIn K mainGlobals "abs" = some none)
    (z_int : PySem.W.nsIn K mainGlobals "int" = some none)
    (z_isinstance : PySem.W.nsIn K mainGlobals "isinstance" = some none)
    (z_len : PySem.W.nsIn K mainGlobals "len" = some none)
    (z_list : PySem.W.nsIn K mainGlobals "list" = some none)
    (z_max : PySem.W.nsIn K mainGlobals "max" = some none)
    (z_min : PySem.W.nsIn K mainGlobals "min" = some none)
    (z_range : PySem.W.nsIn K mainGlobals "range" = some none) : Txt K mg C_Ballot C_BadBlock :=
  { d__law_cell := ⟨_, _, (fun_mk l__law_cell e__law_cell k__law_cell), PySem.W.mg_of X G a__law_cell, ((fun_mk (st := s__law_cell) l__law_cell e__law_cell k__law_cell).binds (ps := ["script", "k"]) fun _ _ _ _ _ _ us hl => match us, hl with | [_, _], _ => rfl)⟩,
    d__law_draws := ⟨_, _, (fun_mk l__law_draws e__law_draws k__law_draws), PySem.W.mg_of X G a__law_draws, ((fun_mk (st := s__law_draws) l__law_draws e__law_draws k__law_draws).binds (ps := ["script", "start", "most"]) fun _ _ _ _ _ _ us hl => match us, hl with | [_, _, _], _ => rfl)⟩,
    d__law_block := ⟨_, _, (fun_mk l__law_block e__law_block k__law_block), PySem.W.mg_of X G a__law_block, ((fun_mk (st := s__law_block) l__law_block e__law_block k__law_block).binds (ps := ["draw", "epoch"]) fun _ _ _ _ _ _ us hl => match us, hl with | [_, _], _ => rfl)⟩,
    d__law_recorded := ⟨_, _, (fun_mk l__law_recorded e__law_recorded k__law_recorded), PySem.W.mg_of X G a__law_recorded, ((fun_mk (st := s__law_recorded) l__law_recorded e__law_recorded k__law_recorded).binds (ps := ["ballot", "block"]) fun _ _ _ _ _ _ us hl => match us, hl with | [_, _], _ => rfl)⟩,
    d_law := ⟨_, _, (fun_mk l_law e_law k_law), PySem.W.mg_of X G a_law, ((fun_mk (st := s_law) l_law e_law k_law).binds (ps := ["script"]) fun _ _ _ _ _ _ us hl => match us, hl with | [_], _ => rfl)⟩,
    cl_Ballot := ⟨pg_Ballot, hd_Ballot, po_Ballot, sa_Ballot⟩,
    g_Ballot := PySem.W.mg_of X G ac_Ballot,
    na_Ballot__blocks := na_Ballot__blocks,
    na_Ballot__last := na_Ballot__last,
    na_Ballot__floor := na_Ballot__floor,
    mk_Ballot := ⟨_, _, ⟨mk_Ballot, a_Ballot____init__, i_Ballot____init__, kc_Ballot⟩, (fun_mk l_Ballot____init__ e_Ballot____init__ k_Ballot____init__), ((fun_mk (st := s_Ballot____init__) l_Ballot____init__ e_Ballot____init__ k_Ballot____init__).binds (ps := ["self", "blocks"]) fun _ _ _ _ _ _ us hl => match us, hl with | [_, _], _ => rfl)⟩,
    me_Ballot__last := ⟨_, _, ⟨a_Ballot__last, i_Ballot__last, k_Ballot__last⟩, (fun_mk l_Ballot__last e_Ballot__last k_Ballot__last), ((fun_mk (st := s_Ballot__last) l_Ballot__last e_Ballot__last k_Ballot__last).binds (ps := ["self"]) fun _ _ _ _ _ _ us hl => match us, hl with | [_], _ => rfl)⟩,
    me_Ballot__floor := ⟨_, _, ⟨a_Ballot__floor, i_Ballot__floor, k_Ballot__floor⟩, (fun_mk l_Ballot__floor e_Ballot__floor k_Ballot__floor), ((fun_mk (st := s_Ballot__floor) l_Ballot__floor e_Ballot__floor k_Ballot__floor).binds (ps := ["self"]) fun _ _ _ _ _ _ us hl => match us, hl with | [_], _ => rfl)⟩,
    me_Ballot__restore := ⟨_, _, ⟨a_Ballot__restore, i_Ballot__restore, k_Ballot__restore⟩, (fun_mk l_Ballot__restore e_Ballot__restore k_Ballot__restore), ((fun_mk (st := s_Ballot__restore) l_Ballot__restore e_Ballot__restore k_Ballot__restore).binds (ps := ["self", "epoch", "floor"]) fun _ _ _ _ _ _ us hl => match us, hl with | [_, _, _], _ => rfl)⟩,
    me_Ballot__record := ⟨_, _, ⟨a_Ballot__record, i_Ballot__record, k_Ballot__record⟩, (fun_mk l_Ballot__record e_Ballot__record k_Ballot__record), ((fun_mk (st := s_Ballot__record) l_Ballot__record e_Ballot__record k_Ballot__record).binds (ps := ["self", "block"]) fun _ _ _ _ _ _ us hl => match us, hl with | [_, _], _ => rfl)⟩,
    me_Ballot__blocks := ⟨_, _, ⟨a_Ballot__blocks, i_Ballot__blocks, k_Ballot__blocks⟩, (fun_mk l_Ballot__blocks e_Ballot__blocks k_Ballot__blocks), ((fun_mk (st := s_Ballot__blocks) l_Ballot__blocks e_Ballot__blocks k_Ballot__blocks).binds (ps := ["self"]) fun _ _ _ _ _ _ us hl => match us, hl with | [_], _ => rfl)⟩,
    x_BadBlock := ⟨xe_BadBlock, PySem.W.mg_of X G xa_BadBlock, xk_BadBlock, xb_BadBlock, xt_BadBlock, xh_BadBlock⟩,
    u_BadBlock_BadBlock := u_BadBlock_BadBlock,
    z_abs := PySem.W.mg_none_of X G z_abs,
    z_int := PySem.W.mg_none_of X G z_int,
    z_isinstance := PySem.W.mg_none_of X G z_isinstance,
    z_len := PySem.W.mg_none_of X G z_len,
    z_list := PySem.W.mg_none_of X G z_list,
    z_max := PySem.W.mg_none_of X G z_max,
    z_min := PySem.W.mg_none_of X G z_min,
    z_range := PySem.W.mg_none_of X G z_range }
end Law
open PySem PySem.W PyProof.Rows
set_option maxRecDepth 100000 in
set_option maxHeartbeats 0 in
theorem PySem.Challenge.cw_oathledger_k34_ballot_remembers_holds : PySem.Challenge.rw_oathledger_k34_ballot_remembers.Holds := by
  w_on; o_law; k_head; (case hw => w_witness2)
  k_fill
  refine L2.walk_of (l := PySem.Challenge.rw_oathledger_k34_ballot_remembers) (n := 63) (k := 5) (x := "script") (CX := fun _ => L2.CX0) (sp := fun w => Law.spLaw _) rfl (by decide) rfl ⟨rfl, by decide, by decide⟩ (fun w h Y => PySem.W.kIn_of Y) ?F (fun _ _ a ns hl _ hS => ⟨a, ns, rfl, hS, hl, fun _ => rfl⟩) (fun _ _ _ _ _ h => h)
  case F =>
    intro w mg fa h KX G hmg
    refine' Law.fin hmg (Law.all_mk KX G ?a__law_cell ?l__law_cell ?e__law_cell ?k__law_cell ?a__law_draws ?l__law_draws ?e__law_draws ?k__law_draws ?a__law_block ?l__law_block ?e__law_block ?k__law_block ?a__law_recorded ?l__law_recorded ?e__law_recorded ?k__law_recorded ?a_law ?l_law ?e_law ?k_law ?ac_Ballot ?pg_Ballot ?hd_Ballot ?po_Ballot ?sa_Ballot ?mk_Ballot ?kc_Ballot ?na_Ballot__blocks ?na_Ballot__last ?na_Ballot__floor ?a_Ballot____init__ ?i_Ballot____init__ ?l_Ballot____init__ ?e_Ballot____init__ ?k_Ballot____init__ ?a_Ballot__last ?i_Ballot__last ?l_Ballot__last ?e_Ballot__last ?k_Ballot__last ?a_Ballot__floor ?i_Ballot__floor ?l_Ballot__floor ?e_Ballot__floor ?k_Ballot__floor ?a_Ballot__restore ?i_Ballot__restore ?l_Ballot__restore ?e_Ballot__restore ?k_Ballot__restore ?a_Ballot__record ?i_Ballot__record ?l_Ballot__record ?e_Ballot__record ?k_Ballot__record ?a_Ballot__blocks ?i_Ballot__blocks ?l_Ballot__blocks ?e_Ballot__blocks ?k_Ballot__blocks ?xa_BadBlock ?xe_BadBlock ?xk_BadBlock ?xb_BadBlock ?xt_BadBlock ?xh_BadBlock ?u_BadBlock_BadBlock ?z_abs ?z_int ?z_isinstance ?z_len ?z_list ?z_max ?z_min ?z_range)
    (case a__law_cell => k_is)
    (case l__law_cell => k_is)
    (case e__law_cell => k_is)
    (case k__law_cell => k_is)
    (case a__law_draws => k_is)
    (case l__law_draws => k_is)
    (case e__law_draws => k_is)
    (case k__law_draws => k_is)
    (case a__law_block => k_is)
    (case l__law_block => k_is)
    (case e__law_block => k_is)
    (case k__law_block => k_is)
    (case a__law_recorded => k_is)
    (case l__law_recorded => k_is)
    (case e__law_recorded => k_is)
    (case k__law_recorded => k_is)
    (case a_law => k_is)
    (case l_law => k_is)
    (case e_law => k_is)
    (case k_law => k_is)
    (case ac_Ballot => k_is)
    (case pg_Ballot => k_is)
    (case hd_Ballot => k_is)
    (case po_Ballot => k_is)
    (case sa_Ballot => k_is)
    (case mk_Ballot => k_is)
    (case kc_Ballot => k_is)
    (case na_Ballot__blocks => k_is)
    (case na_Ballot__last => k_is)
    (case na_Ballot__floor => k_is)
    (case a_Ballot____init__ => k_is)
    (case i_Ballot____init__ => k_is)
    (case l_Ballot____init__ => k_is)
    (case e_Ballot____init__ => k_is)
    (case k_Ballot____init__ => k_is)
    (case a_Ballot__last => k_is)
    (case i_Ballot__last => k_is)
    (case l_Ballot__last => k_is)
    (case e_Ballot__last => k_is)
    (case k_Ballot__last => k_is)
    (case a_Ballot__floor => k_is)
    (case i_Ballot__floor => k_is)
    (case l_Ballot__floor => k_is)
    (case e_Ballot__floor => k_is)
    (case k_Ballot__floor => k_is)
    (case a_Ballot__restore => k_is)
    (case i_Ballot__restore => k_is)
    (case l_Ballot__restore => k_is)
    (case e_Ballot__restore => k_is)
    (case k_Ballot__restore => k_is)
    (case a_Ballot__record => k_is)
    (case i_Ballot__record => k_is)
    (case l_Ballot__record => k_is)
    (case e_Ballot__record => k_is)
    (case k_Ballot__record => k_is)
    (case a_Ballot__blocks => k_is)
    (case i_Ballot__blocks => k_is)
    (case l_Ballot__blocks => k_is)
    (case e_Ballot__blocks => k_is)
    (case k_Ballot__blocks => k_is)
    (case xa_BadBlock => k_is)
    (case xe_BadBlock => first | k_is | k_exc)
    (case xk_BadBlock => k_is)
    (case xb_BadBlock => k_is)
    (case xt_BadBlock => k_is)
    (case xh_BadBlock => k_is)
    (case u_BadBlock_BadBlock => k_is)
    (case z_abs => k_is)
    (case z_int => k_is)
    (case z_isinstance => k_is)
    (case z_len => k_is)
    (case z_list => k_is)
    (case z_max => k_is)
    (case z_min => k_is)
    (case z_range => k_is)

