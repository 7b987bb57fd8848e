import PyProof.Rows.All
import Wide.All
import OpenK.AllK
import Wide.FinOn
import HandS.ForMost
import HandS.Walk
import HandS.Flow
import HandS.Codes
import HandS.IsInst
import HandS.Conv
import HandS.StrMore
import PyProof.MeetsSeq2
import PyProof.DictTable
import HandS.Wide
import HandS.TupAny
import HandS.More
import HandS.Dict
import HandS.ForExc
import HandS.ExcIs
import HandS.ExcField
import HandS.DeepEq
import HandS.TupLe
import HandS.Steps
import HandS.ExcInit
import HandS.SortRule
import HandS.RaiseMore
import HandS.Zip
import PySem.Challenge.RW_oathledger_k08_requests
set_option Elab.async false
set_option linter.all false
set_option maxRecDepth 100000
set_option maxHeartbeats 4000000
namespace Law
open PySem PySem.Spec PyProof.Rows L2
open C8 (Cal Met Mak pe_c pe_mk pe_mt pe_mt0 pe_gc pss_cut tCut)
/-! ### a def of the top, by its name -/
structure DefOk (K : PySem.W.Frag) (mg : Str → Option Value) (x : Str) (st : Stmt) (ps : List Str) : Prop where
  ex : ∃ (f : Addr) (fd : FuncData), L2.Fun K x x st f fd ∧ mg x = some (.ref f) ∧ Binds K fd ps []
section
variable {P : Program} {w : World} {K : PySem.W.Frag} {mg : Str → Option Value} {base : Heap}
/-- a def's promise, by its body -/
theorem cal {x : Str} {st : Stmt} {N ps : List Str} {k : Nat} {sp : Sp} (D : DefOk K mg x st ps) (S : FnScope N ps (defScope st)) (len : ∀ vs H Q E, sp vs H Q E → vs.length = ps.length)
    (hbody : ∀ (f : Addr) (cdv : Value) (A : Around) (outer : List Env) (s : Shared) (H : Hp) (vs : List V) (Q : VK) (E : XK), Room k (A.deeper (envOfC x (defScope st) s.heap.objs.size f cdv)) → sp vs H Q E →
      ∃ t, PSs (cxOf L2.CX0 P w K mg base N x (defScope st) f cdv A outer s H E).nox (defBody st) t ∧ t { nx := fun _ H' => Q .non H', rt := Q } (start N vs) H) : Cal P w K mg base (k + 1) x sp [] := by
  obtain ⟨f, fd, F, hm, b⟩ := D.ex
  exact ⟨f, fd, ps, [], F.ok S len (fun cdv A outer s H vs Q E hr h => hbody f cdv A outer s H vs Q E hr h), hm, F.kp, b, .nil⟩
/-- a call without arguments -/
theorem pe_c0 {X : Cx} {k j : Nat} {x : Str} {sp : Sp} {dvs : List V} {p pos : Pos} (c : Cal X.prog X.w X.K X.mg X.base k x sp dvs) (hr : Room j X.A) (hk : k ≤ j) (hg : Gl X x)
    (hdb : (x == ("__debug__" : Str)) = false := by decide) : PE X (.Call (.Name x p) [] [] pos) (tCall sp dvs L2.E0 tNil) := by
  obtain ⟨f, fd, ps, ds, F, hm, kp, b, d⟩ := c.ex
  exact pe_call0 F (hr.mono hk) hg hm kp b d pass0 hdb
end
/-! ### small things -/
theorem same_upd {H : Hp} {p : Addr} {o : HO} (h : H p = none) : Same H (upd H p o) := fun b x e => by
  rw [upd_ne (ne_of_none e h)]
  exact e
theorem same_mut {H H' : Hp} {p : Addr} {o : HO} (s : Same H H') (h : H p = none) : Same H (upd H' p o) := fun b x e => by
  rw [upd_ne (ne_of_none e h)]
  exact s b x e
theorem sz1000 {n : Nat} (h : n ≤ 100000) : n ≤ sizeLine := Nat.le_trans h (by decide)
theorem sz1000' {n : Nat} (h : n < 100000) : n < sizeLine := Nat.lt_of_lt_of_le h (by decide)
theorem sz1000'' {n : Nat} (h : n ≤ 16777216) : n ≤ sizeLine := by rw [sizeLine_eq]; exact h
theorem sq {K : PySem.W.Frag} {H : Hp} {a : Addr} {xs : List V} (h : H a = some (.lst xs)) : SqL K H a xs := .inl (.inl h)
def spLaw (K : PySem.W.Frag) : Sp := fun vs H Q _ => ∃ (a : Addr) (ns : List Int), vs = [.ref a] ∧ SqL K H a (ns.map V.int) ∧ ns.length ≤ 63 ∧ ∀ H', Q (.bl true) H'
/-! ### the reading, step by step -/
local macro_rules | `(tactic| walk_at "sd") => `(tactic| first
  | omega
  | decide
  | assumption
  | (show _ ∨ _; exact Or.inl ⟨by omega, by omega⟩)
  | (show _ ∨ _; exact Or.inr ⟨by omega, by omega⟩)
  | (show _ ∧ _; exact ⟨by omega, by omega⟩)
  | (show _ ∧ _; exact ⟨by decide, by decide⟩)
  | exact sz1000 (by omega)
  | exact sz1000' (by omega))
local macro_rules | `(tactic| walk_at "sz") => `(tactic| first
  | exact sz1000 (Nat.le_of_ble_eq_true rfl)
  | exact sz1000 (by omega)
  | exact sz1000'' (by omega)
  | assumption)
/-- one step of a reading: a slot, an operator upon numbers, a call upon values -/
local macro_rules | `(tactic| walk_at "rd") => `(tactic| first
  | refine ⟨_, (rfl : (_ : List (Option V))[_]? = some (some _)), ?_⟩
  | refine ⟨_, _, (rfl : (_ : V) = _), (rfl : (_ : V) = _), (by walk_at "sd" : (_ : Prop)), ?_⟩
  | refine ⟨_, _, (rfl : (_ : V) = _), (rfl : (_ : V) = _), ?_⟩
  | refine ⟨_, (rfl : (_ : List V) = _), (by walk_at "sd" : (_ : Prop)), (by walk_at "sd" : (_ : Prop)), ?_⟩
  | refine ⟨_, (rfl : (_ : List V) = _), ?_⟩
  | refine ⟨_, (rfl : (_ : V) = _), ?_⟩
  | refine .inl ⟨_, (rfl : (_ : List V) = _), ?_⟩
  | refine ⟨⟨_, (rfl : (_ : V) = _)⟩, ?_⟩
  | refine ⟨(rfl : scal _ _ = true), ?_⟩
  | refine ⟨(rfl : V.non = V.non), ?_⟩
  | refine ⟨(by walk_at "sz" : (_ ≤ sizeLine)), ?_⟩)
local macro_rules | `(tactic| walk_at "rds") => `(tactic| repeat walk_at "rd")
theorem tyes {σ : L2.St} {H : Hp} {A B : Hp → Prop} (h : A H) : tYes σ H (fun b H3 => if b = true then A H3 else B H3) := by
  show (if true = true then A H else B H)
  rw [if_pos rfl]
  exact h
theorem sum_ones {ys : List Str} (h : ∀ y ∈ ys, y.length = 1) : (ys.map (fun x => x.length)).sum = ys.length := by
  induction ys with
  | nil => rfl
  | cons y r ih =>
    rw [List.map_cons, List.sum_cons, ih (fun z hz => h z (List.mem_cons_of_mem _ hz)), h y List.mem_cons_self, List.length_cons]
    omega
theorem chr_at {z : Str} {i : Int} (h0 : 0 ≤ i) (h1 : i < z.length) : ∃ c, atI z.cps.toList i = some c := by
  obtain ⟨j, rfl⟩ := Int.eq_ofNat_of_zero_le h0
  have hj : j < z.cps.toList.length := by
    rw [Array.length_toList]
    exact Int.ofNat_lt.mp h1
  exact ⟨z.cps.toList[j], atI_nat (List.getElem?_eq_getElem hj)⟩
/-- what an append to a tracked new list leaves -/
theorem lst_app {α : Type} {H : Hp} {D : Addr} {f : α → V} {ys : List α} {y : α} : upd H D (.lst (ys.map f ++ [f y])) D = some (.lst ((ys ++ [y]).map f)) := by
  rw [upd_same, List.map_append]
  rfl
theorem rg40 {n : Nat} (h : n ≤ 100000) : RgC 0 n 40 ((n + 39) / 40) := by
  have e : Builtin.Range.rangeSize 0 (n : Int) 40 = (((n + 39) / 40 : Nat) : Int) := by
    rw [rangeSize_pos (by decide) (by omega)]
    omega
  refine ⟨by decide, by decide, ?_, e⟩
  unfold Builtin.Range.small
  rw [e]
  unfold Builtin.Range.rangeFitsLong
  simp
  omega
theorem isi {K : PySem.W.Frag} {H : Hp} {x : V} {T1 T2 : String} {b : Bool} {Q : VK} (ty : TyX K H x (.type T1)) (e : kitB T1 T2 = some b) (q : Q (.bl b) H) : rIsi K [x, .ty T2] H Q :=
  ⟨x, .ty T2, _, _, b, rfl, .ty _, ty, kit_ty e, q⟩
theorem ifT {c : Bool} {A B : Prop} (hc : c = true) (h : A) : if c = true then A else B := by
  rw [if_pos hc]
  exact h
theorem ifF {c : Bool} {A B : Prop} (hc : c = false) (h : B) : if c = true then A else B := by
  rw [if_neg (by rw [hc]; decide)]
  exact h
local macro_rules | `(tactic| walk_at "isk") => `(tactic| first
  | exact .base (.int _) | exact .base (.str _) | exact .base (.bl _) | exact .base .non
  | exact .base (.lst (by assumption)) | exact .base (.tup (by assumption)) | exact .base (.dK (by assumption)))
/-- isinstance(x, T) with a built-in T; the object's fact stands in the context -/
local macro_rules | `(tactic| walk_at "isi") => `(tactic| first
  | refine ⟨_, .ty _, _, _, true, (rfl : (_ : List V) = _), .ty _, (by walk_at "isk"), kit_ty (by decide +kernel), ?_⟩
  | refine ⟨_, .ty _, _, _, false, (rfl : (_ : List V) = _), .ty _, (by walk_at "isk"), kit_ty (by decide +kernel), ?_⟩)
/-! ### classes of the top -/
structure MethOk (K : PySem.W.Frag) (C : Addr) (m qual : Str) (st : Stmt) (ps : List Str) : Prop where
  ex : ∃ (f : Addr) (fd : FuncData), Meth K C m f ∧ L2.Fun K m qual st f fd ∧ Binds K fd ps []
structure MakOk (K : PySem.W.Frag) (C : Addr) (qual : Str) (st : Stmt) (ps : List Str) : Prop where
  ex : ∃ (f : Addr) (fd : FuncData), Mk K C f ∧ L2.Fun K "__init__" qual st f fd ∧ Binds K fd ps []
section
variable {P : Program} {w : World} {K : PySem.W.Frag} {mg : Str → Option Value} {base : Heap}
theorem met {C : Addr} {m qual : Str} {st : Stmt} {N ps : List Str} {k : Nat} {sp : Sp} (c : Cls K C) (D : MethOk K C m qual st ps) (S : FnScope N ps (defScope st)) (len : ∀ vs H Q E, sp vs H Q E → vs.length = ps.length)
    (hbody : ∀ (f : Addr) (cdv : Value) (A : Around) (outer : List Env) (s : Shared) (H : Hp) (vs : List V) (Q : VK) (E : XK), Room k (A.deeper (envOfC qual (defScope st) s.heap.objs.size f cdv)) → sp vs H Q E →
      ∃ t, PSs (cxOf L2.CX0 P w K mg base N qual (defScope st) f cdv A outer s H E).nox (defBody st) t ∧ t { nx := fun _ H' => Q .non H', rt := Q } (start N vs) H) : Met P w K mg base (k + 1) C m sp [] := by
  obtain ⟨f, fd, M, F, b⟩ := D.ex
  exact ⟨f, fd, ps, [], c, M, F.ok S len (fun cdv A outer s H vs Q E hr h => hbody f cdv A outer s H vs Q E hr h), b, .nil⟩
theorem mak {C : Addr} {x qual : Str} {st : Stmt} {N ps : List Str} {k : Nat} {sp : Sp} (hm : mg x = some (.ref C)) (D : MakOk K C qual st ps) (S : FnScope N ps (defScope st)) (len : ∀ vs H Q E, sp vs H Q E → vs.length = ps.length)
    (hbody : ∀ (f : Addr) (cdv : Value) (A : Around) (outer : List Env) (s : Shared) (H : Hp) (vs : List V) (Q : VK) (E : XK), Room k (A.deeper (envOfC qual (defScope st) s.heap.objs.size f cdv)) → sp vs H Q E →
      ∃ t, PSs (cxOf L2.CX0 P w K mg base N qual (defScope st) f cdv A outer s H E).nox (defBody st) t ∧ t { nx := fun _ H' => Q .non H', rt := Q } (start N vs) H) : Mak P w K mg base (k + 1) x C sp [] := by
  obtain ⟨f, fd, M, F, b⟩ := D.ex
  exact ⟨f, fd, ps, [], M, F.ok S len (fun cdv A outer s H vs Q E hr h => hbody f cdv A outer s H vs Q E hr h), hm, b, .nil⟩
end
/-- a tuple of the top, in the written part -/
def KTup (K : PySem.W.Frag) (a : Addr) (xs : List V) : Prop := ∃ o its n, K.lookup a = some o ∧ o.cls = Value.type "tuple" ∧ o.data = Data.seq its n ∧ its.size ≤ sizeLine ∧ Vals xs its.toList
theorem pe_mk0 {X : Cx} {k j : Nat} {x : Str} {C : Addr} {sp : Sp} {dvs : List V} {p pos : Pos} (c : Mak X.prog X.w X.K X.mg X.base k x C sp dvs) (hr : Room j X.A) (hk : k + 1 ≤ j) (hg : Gl X x)
    (hdb : (x == ("__debug__" : Str)) = false := by decide) : PE X (.Call (.Name x p) [] [] pos) (tMake C sp dvs L2.E0 tNil) := by
  obtain ⟨f, fd, ps, ds, M, F, hm, b, d⟩ := c.ex
  exact pe_make0 M F (hr.mono hk) hg hm b d pass0 hdb
/-! ### rules whose written part is named K (a comprehension's context is another one) -/
section
variable {X : Cx} {K : PySem.W.Frag}
theorem kin (h : X.K = K := by rfl) : OpR X (compareOp .In) (rIn K false) := by subst h; exact op_in_seq
theorem knin (h : X.K = K := by rfl) : OpR X (compareOp .NotIn) (rIn K true) := by subst h; exact op_notIn_seq
theorem kixl (h : X.K = K := by rfl) : IxR X (rIxL K) := by subst h; exact ix_list
theorem kixt (h : X.K = K := by rfl) : IxR X (rIxT K) := by subst h; exact ix_tup
theorem ksll (h : X.K = K := by rfl) : SlR X (rSlL K) := by subst h; exact sl_list
theorem kisi (h : X.K = K := by rfl) : CallR X (.builtin "isinstance") (rIsi K) := by subst h; exact call_isi
theorem kfld {o : Expr} {f : Str} {pos : Pos} {ta : TE} (he : PE X o ta) (hb : attributeBase o f X.env (eval o X.env) = eval o X.env := by rfl) (h : X.K = K := by rfl) : PE X (.Attribute o f pos) (tFld K ta f) := by subst h; exact pe_fld he hb
def rLenK (K : PySem.W.Frag) : List V → Hp → VK → Prop := fun xs H Q => ∃ p ys, xs = [.ref p] ∧ (SqL K H p ys ∨ SqT K H p ys) ∧ Q (.int ys.length) H
theorem klen (h : X.K = K := by rfl) : CallR X (.builtin "len") (rLenK K) := by subst h; exact call_len_seq
end
theorem hu1 {k : Nat} {A : Around} (hr : Room k A) : A.units + 1 < cLine := by have := hr.units; omega
section
variable {X : Cx}
theorem kdin {d : Addr} (h : ∃ es n, KDict X.K X.w d es n) : OpR X (compareOp .In) (fun x y H Q => ∃ (z : Str) (r : Option Value), x = .str z ∧ y = .ref d ∧ PySem.W.nsIn X.K d z = some r ∧ Q (.bl r.isSome) H) := by
  obtain ⟨es, n, D⟩ := h
  exact op_in_kd D
theorem kdnin {d : Addr} (h : ∃ es n, KDict X.K X.w d es n) : OpR X (compareOp .NotIn) (fun x y H Q => ∃ (z : Str) (r : Option Value), x = .str z ∧ y = .ref d ∧ PySem.W.nsIn X.K d z = some r ∧ Q (.bl (!r.isSome)) H) := by
  obtain ⟨es, n, D⟩ := h
  exact op_notIn_kd D
end

/-! ### defs that raise own exceptions -/
theorem kit_own {K : PySem.W.Frag} {B C : Addr} (h1 : PySem.W.subIn K (.ref C) (.type "BaseException") = some true) (h2 : PySem.W.typeIn K (.ref C) = some (.type "type")) (h3 : PySem.W.subIn K (.ref B) (.ref C) = some true) : PySem.W.kitOne K (.ref B) (.ref C) = some true := by
  have h0 : (PySem.W.clsIn K C).isSome = true := by
    have h1 : PySem.W.mroIn K C (.type "BaseException") = some true := h1
    unfold PySem.W.mroIn at h1
    cases e : PySem.W.clsIn K C with
    | some _ => rfl
    | none => rw [e] at h1; cases h1
  unfold PySem.W.kitOne
  split
  · rfl
  · show (if ((PySem.W.clsIn K C).isSome && PySem.W.typeIn K (.ref C) == some (.type "type")) = true then PySem.W.subIn K (.ref B) (.ref C) else none) = some true
    rw [h0, h2, h3]
    rfl
section
variable {X : Cx}
/-- C() of an own exception class without an __init__ of its own -/
theorem pmk_own0 {x : Str} {C : Addr} {bmB : List Value} {B newId initId : String} {p pos : Pos} (F : ExcBaseFacts B newId initId bmB) (q : PySem.W.excIn X.K C bmB newId = true) (gC : X.mg x = some (.ref C)) (kC : PySem.W.keepIn X.K (.ref C) = true) (r : Raises X (.ref C)) (hg : Gl X x)
    (hdb : (x == ("__debug__" : Str)) = false := by decide) : PMk X (.Call (.Name x p) [] [] pos) (fun _ H Q => Q (.ref C) none H) := by
  intro pins s σ H Q I h
  refine wpAny_Call_Name_kw (ld_glob I hg gC ?_ hdb)
  refine PySem.W.callWith_K0 I.kIn kC ?_
  show wpAny _ _ (call (.ref C) []) _ _ _
  obtain ⟨bm, N, nm, qn, bs, hdct, sn, sub, ab, col, dd, k0, k1, k2, k3, k5, mN, hC, hN, hni, T⟩ := exc_obj I.kIn q
  refine wpAny_call_exc_subT F T hC hN hni (fun h' e hm => ?_) (Nat.zero_le _)
  exact mk_of I hm r h (I.hok.gone hm.new)
end
/-- an own exception class over ValueError -/
structure ExOk (K : PySem.W.Frag) (mg : Str → Option Value) (x : Str) (C : Addr) : Prop where
  ex : PySem.W.excIn K C [.type "ValueError", .type "Exception", .type "BaseException", .type "object"] "ValueError.__new__" = true
  g : mg x = some (.ref C)
  kp : PySem.W.keepIn K (.ref C) = true
  bp : PySem.W.subIn K (.ref C) (.type "BaseException") = some true
  tp : PySem.W.typeIn K (.ref C) = some (.type "type")
  hd : PySem.W.hasDictIn K C = true
theorem ExOk.exm {K : PySem.W.Frag} {mg : Str → Option Value} {x : Str} {C : Addr} {cls : Value} {b : Bool} (e : ExOk K mg x C) (h : PySem.W.subIn K cls (.ref C) = some b) : PySem.W.exmOne K cls (.ref C) = some b := PySem.W.exm_ref e.bp e.hd e.tp h
theorem pmk_ok {X : Cx} {x : Str} {C : Addr} {p pos : Pos} (e : ExOk X.K X.mg x C) (hg : Gl X x) (hdb : (x == ("__debug__" : Str)) = false := by decide) : PMk X (.Call (.Name x p) [] [] pos) (fun _ H Q => Q (.ref C) none H) :=
  pmk_own0 PySem.F.excBase_ValueError e.ex e.g e.kp (raises_own e.bp e.tp) hg hdb
/-! the promises of such defs -/
structure CalX (P : Program) (w : World) (K : PySem.W.Frag) (mg : Str → Option Value) (base : Heap) (k : Nat) (x : Str) (sp : Sp) : Prop where
  ex : ∃ (f : Addr) (fd : FuncData) (ps : List Str), FnOk P w K mg base (L2.CX P w) k f fd ps sp ∧ mg x = some (.ref f) ∧ PySem.W.keepIn K (.ref f) = true ∧ Binds K fd ps []
structure MetX (P : Program) (w : World) (K : PySem.W.Frag) (mg : Str → Option Value) (base : Heap) (k : Nat) (C : Addr) (m : Str) (sp : Sp) : Prop where
  ex : ∃ (f : Addr) (fd : FuncData) (ps : List Str), Cls K C ∧ Meth K C m f ∧ FnOk P w K mg base (L2.CX P w) k f fd ps sp ∧ Binds K fd ps []
structure MakX (P : Program) (w : World) (K : PySem.W.Frag) (mg : Str → Option Value) (base : Heap) (k : Nat) (x : Str) (C : Addr) (sp : Sp) : Prop where
  ex : ∃ (f : Addr) (fd : FuncData) (ps : List Str), Mk K C f ∧ FnOk P w K mg base (L2.CX P w) k f fd ps sp ∧ mg x = some (.ref C) ∧ Binds K fd ps []
section
variable {P : Program} {w : World} {K : PySem.W.Frag} {mg : Str → Option Value} {base : Heap}
theorem calX {x : Str} {st : Stmt} {N ps : List Str} {k : Nat} {sp : Sp} (D : DefOk K mg x st ps) (S : FnScope N ps (defScope st)) (len : ∀ vs H Q E, sp vs H Q E → vs.length = ps.length)
    (hbody : ∀ (f : Addr) (cdv : Value) (A : Around) (outer : List Env) (s : Shared) (H : Hp) (vs : List V) (Q : VK) (E : XK), Room k (A.deeper (envOfC x (defScope st) s.heap.objs.size f cdv)) → sp vs H Q E →
      ∃ t, PSs (cxOf (L2.CX P w) P w K mg base N x (defScope st) f cdv A outer s H E) (defBody st) t ∧ t { nx := fun _ H' => Q .non H', rt := Q } (start N vs) H) : CalX P w K mg base (k + 1) x sp := by
  obtain ⟨f, fd, F, hm, b⟩ := D.ex
  exact ⟨f, fd, ps, F.okX S len (fun cdv A outer s H vs Q E hr h => hbody f cdv A outer s H vs Q E hr h), hm, F.kp, b⟩
theorem metX {C : Addr} {m qual : Str} {st : Stmt} {N ps : List Str} {k : Nat} {sp : Sp} (c : Cls K C) (D : MethOk K C m qual st ps) (S : FnScope N ps (defScope st)) (len : ∀ vs H Q E, sp vs H Q E → vs.length = ps.length)
    (hbody : ∀ (f : Addr) (cdv : Value) (A : Around) (outer : List Env) (s : Shared) (H : Hp) (vs : List V) (Q : VK) (E : XK), Room k (A.deeper (envOfC qual (defScope st) s.heap.objs.size f cdv)) → sp vs H Q E →
      ∃ t, PSs (cxOf (L2.CX P w) P w K mg base N qual (defScope st) f cdv A outer s H E) (defBody st) t ∧ t { nx := fun _ H' => Q .non H', rt := Q } (start N vs) H) : MetX P w K mg base (k + 1) C m sp := by
  obtain ⟨f, fd, M, F, b⟩ := D.ex
  exact ⟨f, fd, ps, c, M, F.okX S len (fun cdv A outer s H vs Q E hr h => hbody f cdv A outer s H vs Q E hr h), b⟩
theorem makX {C : Addr} {x qual : Str} {st : Stmt} {N ps : List Str} {k : Nat} {sp : Sp} (hm : mg x = some (.ref C)) (D : MakOk K C qual st ps) (S : FnScope N ps (defScope st)) (len : ∀ vs H Q E, sp vs H Q E → vs.length = ps.length)
    (hbody : ∀ (f : Addr) (cdv : Value) (A : Around) (outer : List Env) (s : Shared) (H : Hp) (vs : List V) (Q : VK) (E : XK), Room k (A.deeper (envOfC qual (defScope st) s.heap.objs.size f cdv)) → sp vs H Q E →
      ∃ t, PSs (cxOf (L2.CX P w) P w K mg base N qual (defScope st) f cdv A outer s H E) (defBody st) t ∧ t { nx := fun _ H' => Q .non H', rt := Q } (start N vs) H) : MakX P w K mg base (k + 1) x C sp := by
  obtain ⟨f, fd, M, F, b⟩ := D.ex
  exact ⟨f, fd, ps, M, F.okX S len (fun cdv A outer s H vs Q E hr h => hbody f cdv A outer s H vs Q E hr h), hm, b⟩
end
/-! their calls: E tells at the slots what is wished of an error -/
section
variable {X : Cx} {k j : Nat} {C : Addr} {x m : Str} {sp : Sp} {p pos apos : Pos} {e o : Expr} {es : List Expr} {ta : TE} {t : TA} {E : L2.St → XK}
theorem pe_cX (c : CalX X.prog X.w X.K X.mg X.base k x sp) (hr : Room j X.A) (hk : k ≤ j) (hg : Gl X x) (hx : ∀ σ, PassesAt (L2.CX X.prog X.w) X σ (E σ)) (ha : PA X (e :: es) t)
    (hdb : (x == ("__debug__" : Str)) = false := by decide) (he : starEach (e :: es) X.env = (false, eval e X.env) :: starEach es X.env := by rfl) (hpl : (backTo pos (starEach es X.env)).any (·.1) = false := by rfl) :
    PE X (.Call (.Name x p) (e :: es) [] pos) (tCallS sp E t) := by
  obtain ⟨f, fd, ps, F, hm, kp, b⟩ := c.ex
  exact pe_callS F (hr.mono hk) hg hm kp b hx ha hdb he hpl
/-- where nothing is raised -/
theorem pe_cXn (c : CalX X.prog X.w X.K X.mg X.base k x sp) (hr : Room j X.A) (hk : k ≤ j) (hg : Gl X x) (ha : PA X (e :: es) t)
    (hdb : (x == ("__debug__" : Str)) = false := by decide) (he : starEach (e :: es) X.env = (false, eval e X.env) :: starEach es X.env := by rfl) (hpl : (backTo pos (starEach es X.env)).any (·.1) = false := by rfl) :
    PE X (.Call (.Name x p) (e :: es) [] pos) (tCall sp [] L2.E0 t) := by
  obtain ⟨f, fd, ps, F, hm, kp, b⟩ := c.ex
  exact pe_call F (hr.mono hk) hg hm kp b .nil passL ha hdb he hpl
def tMethX (C : Addr) (m : Str) (sp : Sp) (E : L2.St → XK) (ta : TE) (t : TA) : TE := fun σ H Q => ta σ H fun x H1 => ∃ a dx fs, x = .ref a ∧ H1 a = some (.ins C dx fs) ∧ fs.lookup m = none ∧ t σ H1 fun vs H2 => sp (.ref a :: vs) H2 Q (E σ)
theorem pe_mtX {pl : Sem Bool} (c : MetX X.prog X.w X.K X.mg X.base k C m sp) (hr : Room j X.A) (hk : k ≤ j) (hx : ∀ σ, PassesAt (L2.CX X.prog X.w) X σ (E σ)) (he : PE X o ta) (ha : PA X (e :: es) t)
    (hst : starEach (e :: es) X.env = (false, eval e X.env) :: starEach es X.env := by rfl) (hpl : (backTo pos (starEach es X.env)).any (·.1) = false := by rfl)
    (ht : eval (.Call (.Attribute o m apos) (e :: es) [] pos) X.env = (do
      let ov ← eval o X.env
      standAt apos.atName
      let (f, first) ← holding [ov] (getMethod ov m pl)
      callWith pos f first (backTo pos (starEach (e :: es) X.env)) (backToKw pos (keywordEach [] X.env))) := by rfl) :
    PE X (.Call (.Attribute o m apos) (e :: es) [] pos) (tMethX C m sp E ta t) := by
  obtain ⟨f, fd, ps, hc, hm, F, b⟩ := c.ex
  refine ⟨fun pins s σ H Q I h => ?_⟩
  refine PySem.W.methodCall_KW (pl := pl) (thn (he.run pins s σ H _ I h) fun u s1 ⟨x, H1, I1, rx, a, dx, fs, ex, ea, l, q⟩ => ?_) ht
  subst ex
  obtain rfl : u = Value.ref a := rx
  refine getmeth_ok I1 ea hc hm l ?_
  refine PySem.W.callWith_K (first := [.ref a]) (h₀ := X.base) I.ok.mod.kin hm.kp (thn (ha.run pos pins s1 σ H1 _ I1 q) fun us s2 ⟨vs, H2, I2, r, q2⟩ => ⟨I2.kIn, ?_⟩) hst hpl
  exact run_fnS (us := .ref a :: us) (vs := .ref a :: vs) F (hr.mono hk) b (hx σ) I2 (.cons rfl r) q2
theorem pe_mtX0 {pl : Sem Bool} (c : MetX X.prog X.w X.K X.mg X.base k C m sp) (hr : Room j X.A) (hk : k ≤ j) (hx : ∀ σ, PassesAt (L2.CX X.prog X.w) X σ (E σ)) (he : PE X o ta)
    (ht : eval (.Call (.Attribute o m apos) [] [] pos) X.env = (do
      let ov ← eval o X.env
      standAt apos.atName
      let (f, first) ← holding [ov] (getMethod ov m pl)
      callWith pos f first (backTo pos (starEach [] X.env)) (backToKw pos (keywordEach [] X.env))) := by rfl) :
    PE X (.Call (.Attribute o m apos) [] [] pos) (tMethX C m sp E ta tNil) := by
  obtain ⟨f, fd, ps, hc, hm, F, b⟩ := c.ex
  refine ⟨fun pins s σ H Q I h => ?_⟩
  refine PySem.W.methodCall_KW (pl := pl) (thn (he.run pins s σ H _ I h) fun u s1 ⟨x, H1, I1, rx, a, dx, fs, ex, ea, l, q⟩ => ?_) ht
  subst ex
  obtain rfl : u = Value.ref a := rx
  refine getmeth_ok I1 ea hc hm l ?_
  exact PySem.W.callWith_K0 (first := [.ref a]) I1.kIn hm.kp (run_fnS (us := [.ref a]) (vs := [.ref a]) F (hr.mono hk) b (hx σ) I1 (.cons rfl .nil) q)
def tMakeX (C : Addr) (sp : Sp) (E : L2.St → XK) (t : TA) : TE := fun σ H Q => t σ H fun vs H1 => ∀ x dx, H1 x = none → H1 dx = none → dx ≠ x → sp (.ref x :: vs) (upd (upd H1 dx (.own x)) x (.ins C dx [])) (fun v H2 => v = .non ∧ Q (.ref x) H2) (E σ)
theorem run_makeX {CX : CXT} {f : Addr} {fd : FuncData} {ps : List Str} {pins : List (Addr × Obj)} {σ : L2.St} {H : Hp} {s : Shared} {Q : VK} {us : List Value} {vs : List V} {Eσ : XK} (M : Mk X.K C f) (F : FnOk X.prog X.w X.K X.mg X.base CX k f fd ps sp) (hr : Room (k + 1) X.A) (hb : Binds X.K fd ps [])
    (hx : PassesAt CX X σ Eσ) (I : Inv X pins σ H s) (r : Vals vs us)
    (h : ∀ x dx, H x = none → H dx = none → dx ≠ x → sp (.ref x :: vs) (upd (upd H dx (.own x)) x (.ins C dx [])) (fun v H2 => v = .non ∧ Q (.ref x) H2) Eσ) :
    wpAny (model X.prog X.w) X.A (call (.ref C) us) (EP X pins σ Q) X.xe s := by
  have hq := h (s.heap.objs.size + 1) s.heap.objs.size (I.hok.fresh (Nat.le_succ _)) (I.hok.fresh (Nat.le_refl _)) (Nat.ne_of_lt (Nat.lt_succ_self _))
  have I2 := Inv.made (C := C) I
  have r2 : Vals (V.ref (s.heap.objs.size + 1) :: vs) (Value.ref (s.heap.objs.size + 1) :: us) := .cons rfl r
  have hl : (Value.ref (s.heap.objs.size + 1) :: us ++ ([] : List Value)).length = ps.length := by
    have e := r2.length
    rw [F.len _ _ _ _ hq] at e
    rw [List.append_nil]
    exact e.symm
  have hb' := hb _ (Value.ref (s.heap.objs.size + 1) :: us) I2.kIn hl
  rw [List.append_nil] at hb'
  refine wpAny_call (make_map (f := f) I.kIn M.makes M.init (beq_iff_eq.mp M.fn) (codeAny_mono (F.run _ X.stack _ _ ⟨Value.ref (s.heap.objs.size + 1) :: us, []⟩ (Value.ref (s.heap.objs.size + 1) :: us) _ _ Eσ (hr.make C us [])
    (I2.env0.make C us []) hb' r2 hq) fun r s' hq' => ?_))
  cases r with
  | error e => exact hx pins _ _ e s' I2 hq'
  | ok fl =>
    cases fl with
    | ret u =>
      obtain ⟨v, H', I3, rv, ev, q3⟩ := I2.after hq'
      subst ev
      exact ⟨rv, ⟨V.ref (s.heap.objs.size + 1), H', I3, rfl, q3⟩⟩
    | next => exact False.elim hq'
    | brk => exact False.elim hq'
    | cont => exact False.elim hq'
theorem pe_mkX (c : MakX X.prog X.w X.K X.mg X.base k x C sp) (hr : Room j X.A) (hk : k + 1 ≤ j) (hg : Gl X x) (hx : ∀ σ, PassesAt (L2.CX X.prog X.w) X σ (E σ)) (ha : PA X (e :: es) t)
    (hdb : (x == ("__debug__" : Str)) = false := by decide) (he : starEach (e :: es) X.env = (false, eval e X.env) :: starEach es X.env := by rfl) (hpl : (backTo pos (starEach es X.env)).any (·.1) = false := by rfl) :
    PE X (.Call (.Name x p) (e :: es) [] pos) (tMakeX C sp E t) := by
  obtain ⟨f, fd, ps, M, F, hm, b⟩ := c.ex
  refine ⟨fun pins s σ H Q I h => ?_⟩
  refine wpAny_Call_Name_kw (ld_glob I hg hm ?_ hdb)
  refine PySem.W.callWith_K (h₀ := X.base) I.ok.mod.kin M.kp (thn (ha.run pos pins s σ H _ I h) fun us s1 ⟨vs, H1, I1, r, q⟩ => ⟨I1.kIn, ?_⟩) he hpl
  exact run_makeX M F (hr.mono hk) b (hx σ) I1 r q
/-- where nothing is let out: for the calls above in a def without errors -/
theorem no_pass : ∀ σ : L2.St, PassesAt (L2.CX X.prog X.w) X σ ((fun _ => L2.E0) σ) := fun σ pins H s e s' I c => passL pins σ H s e s' I c
end

/-! ### x.translate({37: None}) of an ASCII text: the sign with code 37 is left out -/
section
open PySem PySem.Builtin PySem.Builtin.Str
/-- what the table tells of a sign -/
def Tl37 {prog : Program} {w : World} (f : Key → Option Value) : Prop := ∀ c : Nat, f (Sum.inl (c : Int)) = if c = 37 then some Value.none else none
theorem mapOfK {prog : Program} {w : World} {h h' : Heap} {a : Addr} {f : Key → Option Value} (m : h.MapOf (mixKind prog w) a f) (k : ∀ b o, h.get? b = some o → h'.get? b = some o) : h'.MapOf (mixKind prog w) a f := by
  obtain ⟨o, es, ep, ho, r⟩ := m
  exact ⟨o, es, ep, k _ _ ho, r⟩
theorem tl37 {prog : Program} {w : World} {A : Around} {E : Value → Shared → Prop} {s : Shared} {d : Addr} {c : Nat} {f : Key → Option Value} {Q : Mapped → Shared → Prop} (hh : A.handled = none) (hd : (d == sysModules) = false) (hm : s.heap.MapOf (mixKind prog w) d f) (hk : Tl37 (prog := prog) (w := w) f)
    (h1 : c = 37 → ∀ h' k, (∀ b o, s.heap.get? b = some o → h'.get? b = some o) → Q .drop { s with heap := h', toks := k })
    (h2 : c ≠ 37 → ∀ h' k, (∀ b o, s.heap.get? b = some o → h'.get? b = some o) → Q .keep { s with heap := h', toks := k }) : wpAny (model prog w) A (tableLookup (.ref d) c) Q E s := by
  unfold tableLookup
  refine wpAny_bind (wpAny_attempt (wpAny_bind (wpAny_mkInt ?_)))
  have hf := hk c
  by_cases hc : c = 37
  · rw [if_pos hc] at hf
    refine wpAny_getItem_of (knd := mixKind prog w) (k := Sum.inl (c : Int)) (mixKind_int prog w _ _) hm hf ?_
    exact wpAny_pure (h1 hc s.heap _ fun _ _ e => e)
  · rw [if_neg hc] at hf
    refine wpAny_getItem_missing_of (knd := mixKind prog w) (k := Sum.inl (c : Int)) (mixKind_int prog w _ _) hd hh hm hf fun h' e hx => ?_
    show wpAny _ _ (do let b ← isInstance (.ref e) (.type "LookupError"); _) _ _ _
    obtain ⟨ob, t, ho, hc2, _⟩ := hx.there
    refine wpAny_bind (wpAny_isInstance (T := "KeyError") (b := true) ⟨ob, ho, hc2⟩ (by first | rfl | kernel_rfl) ?_)
    show wpAny _ _ (if true = true then (do rule "str.translate.not-in-table"; pure Mapped.keep) else _) _ _ _
    rw [if_pos rfl]
    exact wpAny_bind (wpAny_rule (wpAny_pure (h2 hc h' _ hx.keeps)))
theorem pieces37 : ∀ (l : List Nat) (acc : Array Nat), List.foldl (fun acc (p : Str) => acc ++ p.cps) acc (l.map fun c => (⟨#[c]⟩ : Str)) = acc ++ l.toArray
  | [], acc => by
    show acc = acc ++ #[]
    rw [Array.append_empty]
  | c :: l, acc => by
    rw [List.map_cons, List.foldl_cons, pieces37 l]
    apply Array.toList_inj.mp
    simp
theorem look_new {c c' : Nat} {a b : Option Nat} {known : List (Nat × Option Nat)} (h : List.lookup c' ((c, a) :: known) = some b) : (c' = c ∧ b = a) ∨ List.lookup c' known = some b := by
  rw [List.lookup_cons] at h
  by_cases e : c' = c
  · rw [e, beq_self_eq_true] at h
    exact Or.inl ⟨e, (Option.some.inj h).symm⟩
  · have e2 : (c' == c) = false := beq_eq_false_iff_ne.mpr e
    rw [e2] at h
    exact Or.inr h
def out37 (l : List Nat) : List Nat := l.filter (fun c => decide (c ≠ 37))
def an37 (c : Nat) : Option Nat := if c = 37 then none else some c
/-- what stands while the signs are walked -/
def Tr37 (x : List Nat) (s : Shared) (rest : List Nat) (st : List Str × Nat × Bool × List (Nat × Option Nat) × Bool) (s' : Shared) : Prop :=
  ∃ (past : List Nat) (pieces : List Str) (known : List (Nat × Option Nat)) (h' : Heap) (k : Nat), x = past ++ rest ∧ st = (pieces, (out37 past).length, true, known, false) ∧ pieces.reverse = (out37 past).map (fun c => (⟨#[c]⟩ : Str)) ∧
    (∀ c a, List.lookup c known = some a → a = an37 c) ∧ s' = { s with heap := h', toks := k } ∧ ∀ b o, s.heap.get? b = some o → h'.get? b = some o
theorem Tr37.keep {x : List Nat} {s : Shared} {rest past : List Nat} {c : Nat} {pieces : List Str} {known : List (Nat × Option Nat)} {h' : Heap} {k : Nat} (hc : c ≠ 37) (h1 : x = past ++ c :: rest)
    (h3 : pieces.reverse = (out37 past).map (fun c => (⟨#[c]⟩ : Str))) (h4 : ∀ c a, List.lookup c known = some a → a = an37 c) (h6 : ∀ b o, s.heap.get? b = some o → h'.get? b = some o) :
    Tr37 x s rest (⟨#[c]⟩ :: pieces, (out37 past).length + 1, true, known, false) { s with heap := h', toks := k } := by
  have e : out37 (past ++ [c]) = out37 past ++ [c] := by
    unfold out37
    rw [List.filter_append, List.filter_cons_of_pos (by simpa using hc), List.filter_nil]
  refine ⟨past ++ [c], ⟨#[c]⟩ :: pieces, known, h', k, ?_, ?_, ?_, h4, rfl, h6⟩
  · rw [h1, List.append_assoc] <;> rfl
  · rw [e, List.length_append] <;> rfl
  · rw [e, List.reverse_cons, h3, List.map_append] <;> rfl
theorem Tr37.drop {x : List Nat} {s : Shared} {rest past : List Nat} {c : Nat} {pieces : List Str} {known : List (Nat × Option Nat)} {h' : Heap} {k : Nat} (hc : c = 37) (h1 : x = past ++ c :: rest)
    (h3 : pieces.reverse = (out37 past).map (fun c => (⟨#[c]⟩ : Str))) (h4 : ∀ c a, List.lookup c known = some a → a = an37 c) (h6 : ∀ b o, s.heap.get? b = some o → h'.get? b = some o) :
    Tr37 x s rest (pieces, (out37 past).length, true, known, false) { s with heap := h', toks := k } := by
  have e : out37 (past ++ [c]) = out37 past := by
    unfold out37
    rw [List.filter_append, List.filter_cons_of_neg (by simpa using hc), List.filter_nil, List.append_nil]
  refine ⟨past ++ [c], pieces, known, h', k, ?_, ?_, ?_, h4, rfl, h6⟩
  · rw [h1, List.append_assoc] <;> rfl
  · rw [e]
  · rw [e]; exact h3
theorem meets_tr37 {prog : Program} {w : World} (x : List Nat) (t : Tok) (d : Addr) (hd : (d == sysModules) = false) (hz : x.length ≤ 16000000) (ha : ∀ c ∈ x, c < 128) : MeetsIn prog w («str.translate» ⟨[.str (SX.S x) t, .ref d], []⟩) (fun A R s =>
    A.handled = none ∧ (∃ f, s.heap.MapOf (mixKind prog w) d f ∧ Tl37 (prog := prog) (w := w) f) ∧ ∀ (v : Value) (h' : Heap) (k : Nat), (∀ b o, s.heap.get? b = some o → h'.get? b = some o) → (∃ t', v = .str (SX.S (out37 x)) t') → R (.ok (.ret v)) { s with heap := h', toks := k }) := by
  refine .of_wp fun A R s h => ?_
  obtain ⟨hh, ⟨f, hm, hk⟩, h⟩ := h
  have hh1 : A.in1.handled = none := hh
  show wpAny _ _ (if ((SX.S x).length == 0) = true then (do rule "str.translate.empty"; ret (.str (SX.S x) t)) else (do
    let st ← forIn (SX.S x).cps (([], 0, (SX.S x).cps.all fun y => decide (y < 128), [], false) : List Str × Nat × Bool × List (Nat × Option Nat) × Bool) _
    _)) _ _ s
  by_cases h0 : ((SX.S x).length == 0) = true
  · rw [if_pos h0]
    have hx : x = [] := by
      rw [beq_iff_eq, SX.S_len] at h0
      exact List.eq_nil_of_length_eq_zero h0
    subst hx
    exact wpAny_bind (wpAny_rule (wpAny_pure ⟨_, rfl, h _ s.heap s.toks (fun _ _ e => e) ⟨t, rfl⟩⟩))
  · rw [if_neg h0]
    have hfast : ((SX.S x).cps.all fun y => decide (y < 128)) = true := by
      rw [← Array.all_toList]
      show (x.toArray.toList.all _) = true
      rw [List.toList_toArray, List.all_eq_true]
      exact fun c hc => decide_eq_true (ha c hc)
    rw [hfast]
    refine wpAny_bind (MeetsSeq2.wpAny_forIn_array _ (Tr37 x s) _ (fun c rest st s' hI => ?turn) (fun st s' hI => ?fin) (SX.S x).cps ([], 0, true, [], false) ?h0)
    case h0 =>
      refine ⟨[], [], [], s.heap, s.toks, ?_, rfl, rfl, fun c a z => ?_, rfl, fun _ _ e => e⟩
      · show x = [] ++ x.toArray.toList
        rw [List.toList_toArray, List.nil_append]
      · rw [List.lookup_nil] at z
        cases z
    case turn =>
      obtain ⟨past, pieces, known, h', k, e1, e2, e3, e4, e5, e6⟩ := hI
      subst e2
      subst e5
      have hpl : (out37 past).length ≤ 16000000 := by
        have q := congrArg List.length e1
        rw [List.length_append] at q
        exact Nat.le_trans (List.length_filter_le _ _) (by omega)
      have hm' : ({ s with heap := h', toks := k } : Shared).heap.MapOf (mixKind prog w) d f := mapOfK hm e6
      show wpAny _ _ (if tooLong (out37 past).length = true then _ else (if true = true then _ else _)) _ _ _
      rw [show tooLong (out37 past).length = false from PyProof.Rows.short24 (by omega), if_neg Bool.false_ne_true]
      rw [if_pos rfl]
      cases hl : List.lookup c known with
      | some a =>
        have ha2 := e4 c a hl
        subst ha2
        refine wpAny_bind (wpAny_pure ?_)
        by_cases hc : c = 37
        · have e : an37 c = none := if_pos hc
          rw [e]
          exact wpAny_pure (Tr37.drop hc e1 e3 e4 e6)
        · have e : an37 c = some c := if_neg hc
          rw [e]
          exact wpAny_pure (Tr37.keep hc e1 e3 e4 e6)
      | none =>
        have new : ∀ b, b = an37 c → ∀ c' a, List.lookup c' ((c, b) :: known) = some a → a = an37 c' := fun b hb c' a z => by
          rcases look_new z with ⟨q1, q2⟩ | q
          · rw [q2, hb, q1]
          · exact e4 c' a q
        refine wpAny_bind (tl37 hh1 hd hm' hk (fun hw h2 k2 k3 => ?_) (fun hw h2 k2 k3 => ?_))
        · have e : an37 c = none := if_pos hw
          refine wpAny_bind (wpAny_pure ?_)
          refine wpAny_pure ?_
          exact Tr37.drop (known := (c, none) :: known) hw e1 e3 (new none e.symm) (fun b o z => k3 b o (e6 b o z))
        · have e : an37 c = some c := if_neg hw
          refine wpAny_bind (wpAny_pure ?_)
          refine wpAny_pure ?_
          exact Tr37.keep (known := (c, some c) :: known) hw e1 e3 (new (some c) e.symm) (fun b o z => k3 b o (e6 b o z))
    case fin =>
      obtain ⟨past, pieces, known, h', k, e1, e2, e3, e4, e5, e6⟩ := hI
      subst e2
      subst e5
      have ex : x = past := by rw [e1, List.append_nil]
      have hl : (out37 past).length ≤ 16000000 := by
        rw [← ex]
        exact Nat.le_trans (List.length_filter_le _ _) hz
      show wpAny _ _ (if tooLong (out37 past).length = true then _ else retStr { cps := List.foldl (fun acc (p : Str) => acc ++ p.cps) #[] pieces.reverse }) _ _ _
      rw [show tooLong (out37 past).length = false from PyProof.Rows.short24 (by omega), if_neg Bool.false_ne_true, e3, pieces37, ← ex]
      have ev : (⟨#[] ++ (out37 x).toArray⟩ : Str) = SX.S (out37 x) := by
        rw [Array.empty_append] <;> rfl
      rw [ev]
      exact wpAny_bind (wpAny_mkStr (wpAny_pure ⟨_, rfl, h _ h' _ e6 ⟨_, rfl⟩⟩) (by rw [SX.S_len, sizeLine_eq, ex]; omega))
def rTr37 : V → List V → Hp → VK → Prop := fun x xs H Q => ∃ (t : Str) (d : Addr), x = .str t ∧ xs = [.ref d] ∧ H d = some (.dK [(Sum.inl 37, .non)]) ∧ (∀ c ∈ t.cps.toList, c < 128) ∧ t.length ≤ 16000000 ∧ Q (.str (SX.S (out37 t.cps.toList))) H
theorem mt_tr37 {X : Cx} (hc : X.calm = true) : MtR X "str.translate" rTr37 := by
  intro pins s σ H x xs v us Q I rx rs h
  obtain ⟨a, d, rfl, rfl, hd, ha, h3, h⟩ := h
  obtain ⟨t, rfl⟩ := rx
  obtain ⟨_, low, vs, kv, dd⟩ := dk_of I.hok hd
  cases rs with
  | cons r1 rs =>
    cases rs
    cases r1
    have ea : SX.S a.cps.toList = a := SX.S_tl a
    have hm := dd.mapOf
    have tl : Tl37 (prog := X.prog) (w := X.w) (valueAt vs) := by
      cases kv with
      | cons p r =>
        cases r
        rename_i b
        obtain ⟨k1, v1⟩ := b
        obtain ⟨e1, e2⟩ := p
        have e1 : Sum.inl 37 = k1 := e1
        have e2 : v1 = Value.none := e2
        subst e1 e2
        intro c
        unfold valueAt
        by_cases hc : c = 37
        · subst hc
          rfl
        · rw [if_neg hc]
          have hne : ¬ ((Sum.inl 37 : Key) = Sum.inl (c : Int)) := fun z => hc (by have := Sum.inl.inj z; omega)
          simp [List.find?, hne]
    rw [← ea]
    refine call_meetsIn F.slot_str_translate (typeIs_str _ _ _) F.entry_str_translate (F.args_str_translate_2 _ _) (meets_tr37 a.cps.toList t d low (by rw [Array.length_toList]; exact h3) ha) ⟨I.ok.hd hc, ⟨_, hm, tl⟩, ?_⟩
    intro v h' k hk ⟨t', e⟩
    subst e
    exact ⟨.str _, H, I.kept (t' := k) hk, ⟨t', rfl⟩, h⟩
end

/-! ### a text times an int -/
theorem op_mul_str {X : Cx} : OpR X (binaryOp .Mult) (fun x y H Q => ∃ a i, x = .str a ∧ y = .int i ∧ PySem.MulOk a i ∧ Q (.str (PySem.Txt.mul a i)) H) := fun pins s σ H x y v u Q I rx ry ⟨a, i, ex, ey, ok, q⟩ => by
  subst ex; subst ey
  obtain ⟨t, rfl⟩ := rx
  obtain ⟨t2, rfl⟩ := ry
  exact PySem.SB.mul ok (fun t' k => ⟨.str (PySem.Txt.mul a i), H, I.turnedL (ch := []) (fun _ _ _ e => e) (fun _ m => nomatch m), ⟨t', rfl⟩, q⟩)
theorem mulOk_a {n : Nat} (h : n ≤ 1000000) : PySem.MulOk (Str.ofString "a") (n : Int) := by
  refine ⟨?_, fun _ _ => ?_, fun _ _ => ?_⟩
  · rw [decide_eq_false (by omega), decide_eq_false (by omega)]; rfl
  · have e : (Str.ofString "a").length = 1 := by decide
    rw [e]
    intro z
    have : (1 : Int) ≤ (2 ^ 63 - 1) / (n : Int) := Int.le_ediv_of_mul_le (by omega) (by omega)
    omega
  · have e : (Str.ofString "a").length = 1 := by decide
    rw [e, Nat.one_mul, Int.toNat_natCast]
    unfold PySem.Builtin.Str.tooLong
    have : n ≤ sizeLine := Nat.le_trans h (by decide)
    exact decide_eq_false (by omega)
theorem mul_a {n : Nat} : (PySem.Txt.mul (Str.ofString "a") (n : Int)).cps = (List.replicate n (97 : Nat)).toArray := by
  unfold PySem.Txt.mul
  split
  · rw [show n = 0 by omega]; rfl
  · split
    · rename_i h
      have : n = 1 := by
        have e : ((Str.ofString "a").length == 0) = false := by decide
        rw [e, Bool.or_false] at h
        have := eq_of_beq h
        omega
      subst this
      decide
    · show List.foldl (fun x1 x2 => x1 ++ x2) #[] (List.replicate (n : Int).toNat (Str.ofString "a").cps) = _
      rw [Int.toNat_natCast, show (Str.ofString "a").cps = #[97] by decide]
      have : ∀ (n : Nat) (acc : Array Nat), List.foldl (fun (x1 x2 : Array Nat) => x1 ++ x2) acc (List.replicate n #[97]) = acc ++ (List.replicate n (97 : Nat)).toArray := by
        intro n
        induction n with
        | zero => intro acc; simp
        | succ n ih =>
          intro acc
          rw [List.replicate_succ, List.foldl_cons, ih, List.replicate_succ]
          apply Array.toList_inj.mp
          simp
      rw [this]
      simp

def topS (i : Nat) : Stmt := PySem.Challenge.pw_oathledger_k08_requests.main.body.getD i (.Pass ⟨0, 0, 0, 0⟩)
abbrev s_is_integer : Stmt := topS 4
theorem sc_is_integer : FnScope ["value", "least", "greatest"] ["value", "least", "greatest"] (defScope s_is_integer) := ⟨rfl, rfl, rfl, by decide +kernel, rfl, by decide +kernel, by decide +kernel⟩
abbrev s_is_printable : Stmt := topS 5
theorem sc_is_printable : FnScope ["value"] ["value"] (defScope s_is_printable) := ⟨rfl, rfl, rfl, by decide +kernel, rfl, by decide +kernel, by decide +kernel⟩
abbrev s_is_short : Stmt := topS 6
theorem sc_is_short : FnScope ["value", "most"] ["value", "most"] (defScope s_is_short) := ⟨rfl, rfl, rfl, by decide +kernel, rfl, by decide +kernel, by decide +kernel⟩
abbrev s_is_client : Stmt := topS 8
theorem sc_is_client : FnScope ["value"] ["value"] (defScope s_is_client) := ⟨rfl, rfl, rfl, by decide +kernel, rfl, by decide +kernel, by decide +kernel⟩
abbrev s_is_number : Stmt := topS 9
theorem sc_is_number : FnScope ["value"] ["value"] (defScope s_is_number) := ⟨rfl, rfl, rfl, by decide +kernel, rfl, by decide +kernel, by decide +kernel⟩
abbrev s_is_command : Stmt := topS 10
theorem sc_is_command : FnScope ["value", "client", "number", "text"] ["value"] (defScope s_is_command) := ⟨rfl, rfl, rfl, by decide +kernel, rfl, by decide +kernel, by decide +kernel⟩
abbrev s_is_command_list : Stmt := topS 11
theorem sc_is_command_list : FnScope ["value", "before", "command"] ["value"] (defScope s_is_command_list) := ⟨rfl, rfl, rfl, by decide +kernel, rfl, by decide +kernel, by decide +kernel⟩
abbrev s_last_number : Stmt := topS 12
theorem sc_last_number : FnScope ["last", "client"] ["last", "client"] (defScope s_last_number) := ⟨rfl, rfl, rfl, by decide +kernel, rfl, by decide +kernel, by decide +kernel⟩
abbrev s_all_fresh : Stmt := topS 13
theorem sc_all_fresh : FnScope ["last", "commands", "client", "number", "_"] ["last", "commands"] (defScope s_all_fresh) := ⟨rfl, rfl, rfl, by decide +kernel, rfl, by decide +kernel, by decide +kernel⟩
abbrev s_numbers_after : Stmt := topS 14
theorem sc_numbers_after : FnScope ["last", "commands", "numbers", "client", "number", "_"] ["last", "commands"] (defScope s_numbers_after) := ⟨rfl, rfl, rfl, by decide +kernel, rfl, by decide +kernel, by decide +kernel⟩
abbrev s__law_draws : Stmt := topS 16
theorem sc__law_draws : FnScope ["script", "draws", "k", "cell", "step", "mixed"] ["script"] (defScope s__law_draws) := ⟨rfl, rfl, rfl, by decide +kernel, rfl, by decide +kernel, by decide +kernel⟩
abbrev s__law_next : Stmt := topS 17
theorem sc__law_next : FnScope ["draws", "at", "many", "index"] ["draws", "at", "many"] (defScope s__law_next) := ⟨rfl, rfl, rfl, by decide +kernel, rfl, by decide +kernel, by decide +kernel⟩
abbrev s__law_big : Stmt := topS 18
theorem sc__law_big : FnScope ["draws", "at", "many", "number", "k"] ["draws", "at", "many"] (defScope s__law_big) := ⟨rfl, rfl, rfl, by decide +kernel, rfl, by decide +kernel, by decide +kernel⟩
abbrev s__law_char : Stmt := topS 19
theorem sc__law_char : FnScope ["number", "chars"] ["number"] (defScope s__law_char) := ⟨rfl, rfl, rfl, by decide +kernel, rfl, by decide +kernel, by decide +kernel⟩
abbrev s__law_string : Stmt := topS 20
theorem sc__law_string : FnScope ["draws", "at", "most", "size", "first", "step", "text", "k"] ["draws", "at", "most"] (defScope s__law_string) := ⟨rfl, rfl, rfl, by decide +kernel, rfl, by decide +kernel, by decide +kernel⟩
abbrev s__law_command : Stmt := topS 21
theorem sc__law_command : FnScope ["draws", "at", "client", "number"] ["draws", "at", "client"] (defScope s__law_command) := ⟨rfl, rfl, rfl, by decide +kernel, rfl, by decide +kernel, by decide +kernel⟩
abbrev s__law_commands : Stmt := topS 22
theorem sc__law_commands : FnScope ["draws", "at", "most", "commands", "client", "k"] ["draws", "at", "most"] (defScope s__law_commands) := ⟨rfl, rfl, rfl, by decide +kernel, rfl, by decide +kernel, by decide +kernel⟩
abbrev s__law_truth : Stmt := topS 24
theorem sc__law_truth : FnScope ["actual", "expected"] ["actual", "expected"] (defScope s__law_truth) := ⟨rfl, rfl, rfl, by decide +kernel, rfl, by decide +kernel, by decide +kernel⟩
abbrev s__law_many : Stmt := topS 25
theorem sc__law_many : FnScope ["draws", "at", "commands", "k"] ["draws", "at"] (defScope s__law_many) := ⟨rfl, rfl, rfl, by decide +kernel, rfl, by decide +kernel, by decide +kernel⟩
abbrev s__law_spoilt : Stmt := topS 26
theorem sc__law_spoilt : FnScope ["command", "draws", "at", "choice", "wrong"] ["command", "draws", "at"] (defScope s__law_spoilt) := ⟨rfl, rfl, rfl, by decide +kernel, rfl, by decide +kernel, by decide +kernel⟩
abbrev s__law_numbers : Stmt := topS 27
theorem sc__law_numbers : FnScope ["last", "commands", "before", "result", "fresh", "clients", "due", "command", "held", "client", "key"] ["last", "commands"] (defScope s__law_numbers) := ⟨rfl, rfl, rfl, by decide +kernel, rfl, by decide +kernel, by decide +kernel⟩
abbrev s_law : Stmt := topS 28
theorem sc_law : FnScope ["script", "draws", "at", "turn", "commands", "last", "command", "index", "wrong", "listed", "twice", "value"] ["script"] (defScope s_law) := ⟨rfl, rfl, rfl, by decide +kernel, rfl, by decide +kernel, by decide +kernel⟩
structure Txt (K : PySem.W.Frag) (mg : Str → Option Value) : Prop where
  d_is_integer : DefOk K mg "is_integer" s_is_integer ["value", "least", "greatest"]
  d_is_printable : DefOk K mg "is_printable" s_is_printable ["value"]
  d_is_short : DefOk K mg "is_short" s_is_short ["value", "most"]
  d_is_client : DefOk K mg "is_client" s_is_client ["value"]
  d_is_number : DefOk K mg "is_number" s_is_number ["value"]
  d_is_command : DefOk K mg "is_command" s_is_command ["value"]
  d_is_command_list : DefOk K mg "is_command_list" s_is_command_list ["value"]
  d_last_number : DefOk K mg "last_number" s_last_number ["last", "client"]
  d_all_fresh : DefOk K mg "all_fresh" s_all_fresh ["last", "commands"]
  d_numbers_after : DefOk K mg "numbers_after" s_numbers_after ["last", "commands"]
  d__law_draws : DefOk K mg "_law_draws" s__law_draws ["script"]
  d__law_next : DefOk K mg "_law_next" s__law_next ["draws", "at", "many"]
  d__law_big : DefOk K mg "_law_big" s__law_big ["draws", "at", "many"]
  d__law_char : DefOk K mg "_law_char" s__law_char ["number"]
  d__law_string : DefOk K mg "_law_string" s__law_string ["draws", "at", "most"]
  d__law_command : DefOk K mg "_law_command" s__law_command ["draws", "at", "client"]
  d__law_commands : DefOk K mg "_law_commands" s__law_commands ["draws", "at", "most"]
  d__law_truth : DefOk K mg "_law_truth" s__law_truth ["actual", "expected"]
  d__law_many : DefOk K mg "_law_many" s__law_many ["draws", "at"]
  d__law_spoilt : DefOk K mg "_law_spoilt" s__law_spoilt ["command", "draws", "at"]
  d__law_numbers : DefOk K mg "_law_numbers" s__law_numbers ["last", "commands"]
  d_law : DefOk K mg "law" s_law ["script"]
  c_MOST_CLIENTS : ∃ u, mg "MOST_CLIENTS" = some u ∧ RelV (.int 100) u
  c_MOST_NUMBER : ∃ u, mg "MOST_NUMBER" = some u ∧ RelV (.int 1000000000000) u
  c_MOST_TEXT : ∃ u, mg "MOST_TEXT" = some u ∧ RelV (.int 240) u
  z_abs : mg "abs" = none
  z_bool : mg "bool" = none
  z_dict : mg "dict" = none
  z_int : mg "int" = none
  z_isinstance : mg "isinstance" = none
  z_len : mg "len" = none
  z_list : mg "list" = none
  z_max : mg "max" = none
  z_range : mg "range" = none
  z_sorted : mg "sorted" = none
  z_str : mg "str" = none
  z_tuple : mg "tuple" = none
set_option pp.maxSteps 150
/-! ### the draws of a script -/
def Dr (H : Hp) (D A : Addr) : Prop := D ≠ A ∧ ∃ (ds : List Int) (n : Nat), H D = some (.lst (ds.map V.int)) ∧ H A = some (.lst [.int n]) ∧ (∀ d ∈ ds, 0 ≤ d ∧ d < 1000) ∧ ds.length ≤ 2520
/-- all that was tracked but A is as it was -/
def Mod (A : Addr) (H H' : Hp) : Prop := ∀ b o, b ≠ A → H b = some o → H' b = some o
theorem Mod.refl {A : Addr} {H : Hp} : Mod A H H := fun _ _ _ h => h
theorem Mod.trans {A : Addr} {H H1 H2 : Hp} (a : Mod A H H1) (b : Mod A H1 H2) : Mod A H H2 := fun c o n h => b c o n (a c o n h)
theorem Same.mod {A : Addr} {H H' : Hp} (s : Same H H') : Mod A H H' := fun b o _ h => s b o h
theorem Mod.new {A p : Addr} {o : HO} {H H' : Hp} (s : Mod A H H') (h : H' p = none) : Mod A H (upd H' p o) := fun b u n e => by
  rw [upd_ne (ne_of_none (s b u n e) h)]
  exact s b u n e
theorem Dr.new {D A p : Addr} {o : HO} {H : Hp} (d : Dr H D A) (h : H p = none) : Dr (upd H p o) D A := by
  obtain ⟨ne, ds, n, h1, h2, h3⟩ := d
  exact ⟨ne, ds, n, by rw [upd_ne (ne_of_none h1 h)]; exact h1, by rw [upd_ne (ne_of_none h2 h)]; exact h2, h3⟩
theorem Dr.same {D A : Addr} {H H' : Hp} (d : Dr H D A) (s : Same H H') : Dr H' D A := by
  obtain ⟨ne, ds, n, h1, h2, h3⟩ := d
  exact ⟨ne, ds, n, s _ _ h1, s _ _ h2, h3⟩
/-- an object that is neither D nor A is changed -/
theorem Dr.put {D A p : Addr} {o : HO} {H : Hp} (d : Dr H D A) (h1 : p ≠ D) (h2 : p ≠ A) : Dr (upd H p o) D A := by
  obtain ⟨ne, ds, n, e1, e2, h3⟩ := d
  exact ⟨ne, ds, n, by rw [upd_ne h1.symm]; exact e1, by rw [upd_ne h2.symm]; exact e2, h3⟩
theorem Dr.freshA {D A p : Addr} {H : Hp} (d : Dr H D A) (h : H p = none) : p ≠ A := by
  obtain ⟨_, _, _, _, e, _⟩ := d
  exact (ne_of_none e h).symm
theorem Dr.freshD {D A p : Addr} {H : Hp} (d : Dr H D A) (h : H p = none) : p ≠ D := by
  obtain ⟨_, _, _, e, _⟩ := d
  exact (ne_of_none e h).symm
theorem Mod.free {A p : Addr} {H H' : Hp} (s : Mod A H H') (d : ∃ o, H' A = some o) (h : H' p = none) : H p = none := by
  cases e : H p with
  | none => rfl
  | some o =>
    by_cases hp : p = A
    · subst hp
      obtain ⟨o', e'⟩ := d
      rw [e'] at h; cases h
    · rw [s p o hp e] at h; cases h
theorem Dr.A_in {D A : Addr} {H : Hp} (d : Dr H D A) : ∃ o, H A = some o := by
  obtain ⟨_, _, _, _, e, _⟩ := d
  exact ⟨_, e⟩
theorem rng_app {ds : List Int} {x : Int} (h : ∀ d ∈ ds, 0 ≤ d ∧ d < 1000) (h0 : 0 ≤ x) (h1 : x < 1000) : ∀ d ∈ ds ++ [x], 0 ≤ d ∧ d < 1000 := fun d hd => by
  rcases List.mem_append.mp hd with hd | hd
  · exact h d hd
  · rw [List.mem_singleton.mp hd]; exact ⟨h0, h1⟩

def spDraws (K : PySem.W.Frag) : Sp := fun vs H Q _ => ∃ (a : Addr) (ns : List Int), vs = [.ref a] ∧ SqL K H a (ns.map V.int) ∧ ns.length ≤ 63 ∧
  ∀ (H' : Hp) (D : Addr) (ds : List Int), Same H H' → H D = none → H' D = some (.lst (ds.map V.int)) → (∀ d ∈ ds, 0 ≤ d ∧ d < 1000) → ds.length ≤ 2520 → Q (.ref D) H'
def spNext : Sp := fun vs H Q _ => ∃ (D A : Addr) (m : Int), vs = [.ref D, .ref A, .int m] ∧ Dr H D A ∧ 1 ≤ m ∧
  ∀ (H' : Hp) (r : Int), 0 ≤ r → r < m → Mod A H H' → Dr H' D A → Q (.int r) H'
section
variable {P : Program} {w : World} {K : PySem.W.Frag} {mg : Str → Option Value} {base : Heap}
theorem c__law_next (T : Txt K mg) : Cal P w K mg base 1 "_law_next" spNext [] := by
  refine cal T.d__law_next sc__law_next (fun vs H Q E h => ?_) (fun f cdv A outer s H vs Q E hr h => ?_)
  · obtain ⟨D, A, m, rfl, _⟩ := h; rfl
  obtain ⟨D, A, m, rfl, dr, hm, q⟩ := h
  obtain ⟨ne, ds, n, hD, hA, hrg, hle⟩ := id dr
  refine ⟨_, (pss_cons (ps_set (i := 3) sc__law_next.nd rfl (Or.inl rfl) (pe_ix (kixl (K := K)) (pv 1) pe_int (fun _ _ => rfl)))
      (pss_cons (ps_asg (pe_op op_add (pv 3) pe_int) (pg_sub (pv 1) pe_int set_list))
      (pss_cons (ps_if (pt_cmpR op_lt (pv 3) (pe_callB (klen (K := K)) (by rfl) T.z_len (by decide +kernel) (pa_cons (pv 0) pa_nil)) (nomark _)) (pss_one (ps_ret (pe_op op_mod (pe_callTy call_int1 (by rfl) T.z_int (by decide +kernel) (pa_cons (pe_ix (kixl (K := K)) (pv 0) (pv 3) (fun _ _ => rfl)) pa_nil)) (pv 2)))) pss_nil)
      (pss_one (ps_ret pe_int))))), ?_⟩
  walk_at "rds"
  refine ⟨A, _, (0 : Int), _, rfl, rfl, sq hA, atI_nat (j := 0) rfl, ?_⟩
  walk_at "rds"
  refine ⟨A, _, (0 : Int), 0, rfl, rfl, hA, rfl, ?_⟩
  have hD' : (upd H A (.lst [.int ((n : Int) + 1)])) D = some (.lst (ds.map V.int)) := by rw [upd_ne ne]; exact hD
  have md : Mod A H (upd H A (.lst [.int ((n : Int) + 1)])) := fun b o hb e => by rw [upd_ne hb]; exact e
  have dr' : Dr (upd H A (.lst [.int ((n : Int) + 1)])) D A := ⟨ne, ds, n + 1, hD', upd_same, hrg, hle⟩
  walk_at "rds"
  refine ⟨D, _, rfl, .inl (sq hD'), ?_⟩
  walk_at "rds"
  refine ite2 (fun e => ?_) (fun e => ?_)
  · have e := of_decide_eq_true e
    rw [List.length_map] at e
    have e1 : n < ds.length := by omega
    have g : (ds.map V.int)[n]? = some (.int ds[n]) := by
      rw [List.getElem?_map, List.getElem?_eq_getElem e1]; rfl
    walk_at "rds"
    refine ⟨D, _, (n : Int), _, rfl, rfl, sq hD', atI_nat g, ?_⟩
    walk_at "rds"
    exact q _ _ (Int.emod_nonneg _ (by omega)) (Int.emod_lt_of_pos _ (by omega)) md dr'
  · exact q _ _ (by omega) (by omega) md dr'
theorem c__law_draws (T : Txt K mg) : Cal P w K mg base 1 "_law_draws" (spDraws K) [] := by
  refine cal T.d__law_draws sc__law_draws (fun vs H Q E h => ?_) (fun f cdv A outer s H vs Q E hr h => ?_)
  · obtain ⟨a, ns, rfl, _⟩ := h; rfl
  obtain ⟨a, ns, rfl, hS, hlen, q⟩ := h
  refine ⟨_, (pss_cons (ps_set (i := 1) sc__law_draws.nd rfl (Or.inl rfl) (pe_lst pa_nil))
      (pss_cons (ps_for PassesOwn.never rfl (pi_range1 (by rfl) T.z_range (pa_cons (pe_callB (klen (K := K)) (by rfl) T.z_len (by decide +kernel) (pa_cons (pv 0) pa_nil)) pa_nil)) (pg_name (i := 2) sc__law_draws.nd rfl (Or.inl rfl)) (pss_cons (ps_set (i := 3) sc__law_draws.nd rfl (Or.inl rfl) (pe_callB call_abs (by rfl) T.z_abs (by decide +kernel) (pa_cons (pe_ix (kixl (K := K)) (pv 0) (pv 2) (fun _ _ => rfl)) pa_nil)))
      (pss_one (ps_if (pt_cmpR op_ge (pv 3) (pe_op op_pow pe_int pe_int) (nomark _)) (pss_one (ps_for PassesOwn.never rfl (pi_range1 (by rfl) T.z_range (pa_cons pe_int pa_nil)) (pg_name (i := 4) sc__law_draws.nd rfl (Or.inl rfl)) (pss_cons (ps_expr (pe_bm PySem.F.plainAttrs_list PySem.F.slot_list_append PySem.F.type_list_append mt_append (pv 1) (pa_cons (pe_op op_mod (pe_callTy call_int1 (by rfl) T.z_int (by decide +kernel) (pa_cons (pv 3) pa_nil)) pe_int) pa_nil)))
      (pss_one (ps_set (i := 3) sc__law_draws.nd rfl (Or.inl rfl) (pe_op op_fdiv (pv 3) pe_int)))))) (pss_cons (ps_set (i := 5) sc__law_draws.nd rfl (Or.inl rfl) (pe_op op_add (pv 3) pe_int))
      (pss_one (ps_for PassesOwn.never rfl (pi_range1 (by rfl) T.z_range (pa_cons pe_int pa_nil)) (pg_name (i := 4) sc__law_draws.nd rfl (Or.inl rfl)) (pss_cons (ps_set (i := 5) sc__law_draws.nd rfl (Or.inl rfl) (pe_op op_mod (pe_callTy call_int1 (by rfl) T.z_int (by decide +kernel) (pa_cons (pe_op op_add (pe_op op_add (pe_op op_mul (pv 5) pe_int) (pe_op op_mul pe_int (pe_op op_add (pv 2) (pv 4)))) pe_int) pa_nil)) pe_int))
      (pss_cons (ps_set (i := 5) sc__law_draws.nd rfl (Or.inl rfl) (pe_op op_mod (pe_callTy call_int1 (by rfl) T.z_int (by decide +kernel) (pa_cons (pe_op op_add (pe_op op_mul (pv 5) pe_int) pe_int) pa_nil)) pe_int))
      (pss_one (ps_expr (pe_bm PySem.F.plainAttrs_list PySem.F.slot_list_append PySem.F.type_list_append mt_append (pv 1) (pa_cons (pe_op op_mod (pe_callTy call_int1 (by rfl) T.z_int (by decide +kernel) (pa_cons (pe_op op_fdiv (pv 5) pe_int) pa_nil)) pe_int) pa_nil)))))))))))))
      (pss_one (ps_ret (pv 1))))), ?_⟩
  refine ⟨by decide, fun D hD => ?_⟩
  walk_at "rds"
  refine ⟨a, _, rfl, .inl ((same_upd hD).seq hS), ?_⟩
  refine ⟨_, rfl, by rw [List.length_map]; omega, by rw [List.length_map]; omega, ?_⟩
  refine for_it walk_range (Pv := fun i σ H' => ∃ y2 y3 y4 y5 ds, σ = [some (.ref a), some (.ref D), y2, y3, y4, y5] ∧ Same H H' ∧ H' D = some (.lst (ds.map V.int)) ∧ (∀ d ∈ ds, 0 ≤ d ∧ d < 1000) ∧ ds.length ≤ 40 * i) ⟨none, none, none, none, [], rfl, same_upd hD, upd_same, by simp, by simp⟩ (fun _ _ _ _ _ => trivial) (fun i x σ H1 H2 hi hp hy => ?_) (fun σ H1 hp => ?_)
  · obtain ⟨y2, y3, y4, y5, ds, rfl, sm, hd, hrg, hl⟩ := hp
    obtain ⟨rfl, rfl⟩ := hy
    have hi' : i < ns.length := by rw [List.length_map] at hi; omega
    have g : (ns.map V.int)[i]? = some (.int ns[i]) := by
      rw [List.getElem?_map, List.getElem?_eq_getElem hi']; rfl
    have e0 : (0 : Int) + (i : Int) = (i : Int) := by omega
    walk_at "rds"
    refine ⟨a, _, (i : Int), _, rfl, by show V.int (0 + (i : Int)) = V.int i; rw [e0], sm.seq hS, atI_nat g, ?_⟩
    walk_at "rds"
    have hc0 : (0 : Int) ≤ (if ns[i] < 0 then -ns[i] else ns[i]) := by split <;> omega
    generalize (if ns[i] < 0 then -ns[i] else ns[i]) = c at hc0
    refine ite2 (fun e => ?_) (fun e => ?_)
    · refine ⟨40, rfl, by decide, by decide, ?_⟩
      refine for_it walk_range (Pv := fun j σ H' => ∃ y4 ds c, σ = [some (.ref a), some (.ref D), some (.int (0 + (i : Int))), some (.int c), y4, y5] ∧ Same H H' ∧ H' D = some (.lst (ds.map V.int)) ∧ (∀ d ∈ ds, 0 ≤ d ∧ d < 1000) ∧ ds.length ≤ 40 * i + j ∧ 0 ≤ c) ⟨y4, ds, c, rfl, sm, hd, hrg, by omega, hc0⟩ (fun _ _ _ _ _ => trivial) (fun j x σ H3 H4 hj hp hy => ?_) (fun σ H3 hp => ?_)
      · obtain ⟨z4, ds, c, rfl, sm, hd, hrg, hl, hc0⟩ := hp
        obtain ⟨rfl, rfl⟩ := hy
        refine ⟨.ref D, rfl, .inl ⟨rfl, _, sq hd⟩, ?_⟩
        walk_at "rds"
        have hj' : j < 40 := hj
        refine ⟨_, _, _, rfl, rfl, hd, by rw [List.length_map]; exact sz1000' (by omega), ?_⟩
        refine ⟨_, rfl, _, _, rfl, rfl, ⟨by decide, by decide⟩, ?_⟩
        refine ⟨_, ds ++ [c % 1000], c / 1000, rfl, same_mut sm hD, lst_app, rng_app hrg (by omega) (by omega), ?_, by omega⟩
        rw [List.length_append, List.length_singleton]; omega
      · obtain ⟨z4, ds, c, rfl, sm, hd, hrg, hl, hc0⟩ := hp
        exact ⟨_, _, _, _, ds, rfl, sm, hd, hrg, by have : (40 : Int).toNat = 40 := rfl; omega⟩
    · have hc1 : c < 10 ^ 18 := by
        have : ¬ ((10 : Int) ^ (18 : Int).toNat ≤ c) := fun z => e (decide_eq_true z)
        have e18 : (10 : Int) ^ (18 : Int).toNat = 10 ^ 18 := rfl
        omega
      walk_at "rds"
      refine for_it walk_range (Pv := fun j σ H' => ∃ y4 ds m, σ = [some (.ref a), some (.ref D), some (.int (0 + (i : Int))), some (.int c), y4, some (.int m)] ∧ Same H H' ∧ H' D = some (.lst (ds.map V.int)) ∧ (∀ d ∈ ds, 0 ≤ d ∧ d < 1000) ∧ ds.length ≤ 40 * i + j ∧ 0 ≤ m ∧ m ≤ 10 ^ 18) ⟨y4, ds, _, rfl, sm, hd, hrg, by omega, by omega, by omega⟩ (fun _ _ _ _ _ => trivial) (fun j x σ H3 H4 hj hp hy => ?_) (fun σ H3 hp => ?_)
      · obtain ⟨z4, ds, m, rfl, sm, hd, hrg, hl, hm0, hm1⟩ := hp
        obtain ⟨rfl, rfl⟩ := hy
        have hj' : j < 8 := hj
        walk_at "rds"
        refine ⟨.inl ⟨rfl, _, sq hd⟩, ?_⟩
        walk_at "rds"
        refine ⟨_, _, _, rfl, rfl, hd, by rw [List.length_map]; exact sz1000' (by omega), ?_⟩
        refine ⟨_, ds ++ [_], _, rfl, same_mut sm hD, lst_app, rng_app hrg (by omega) (by omega), ?_, by omega, by omega⟩
        rw [List.length_append, List.length_singleton]; omega
      · obtain ⟨z4, ds, m, rfl, sm, hd, hrg, hl, hm0, hm1⟩ := hp
        exact ⟨_, _, _, _, ds, rfl, sm, hd, hrg, by have : (8 : Int).toNat = 8 := rfl; omega⟩
  · obtain ⟨y2, y3, y4, y5, ds, rfl, sm, hd, hrg, hl⟩ := hp
    refine ⟨.ref D, rfl, ?_⟩
    refine q _ _ _ sm hD hd hrg ?_
    rw [List.length_map] at hl; omega
end

/-! ### drawn numbers and strings -/
def prC (c : Nat) : Bool := decide (32 ≤ c) && decide (c ≤ 126) && decide (c ≠ 37)
def isPr (z : Str) : Bool := z.cps.toList.all prC
theorem app_tl (a b : Str) : (a ++ b).cps.toList = a.cps.toList ++ b.cps.toList := by
  show (a.cps ++ b.cps).toList = _
  rw [Array.toList_append]
theorem len_tl (z : Str) : z.cps.toList.length = z.length := Array.length_toList
theorem isPr_app (a b : Str) : isPr (a ++ b) = (isPr a && isPr b) := by
  unfold isPr
  rw [app_tl, List.all_append]

def spBig : Sp := fun vs H Q _ => ∃ (D A : Addr) (m : Int), vs = [.ref D, .ref A, .int m] ∧ Dr H D A ∧ 1 ≤ m ∧
  ∀ (H' : Hp) (r : Int), 0 ≤ r → r < m → Mod A H H' → Dr H' D A → Q (.int r) H'
def spChar : Sp := fun vs H Q _ => ∃ (n : Int), vs = [.int n] ∧ ∀ c : Nat, prC c = true → Q (.str ⟨#[c]⟩) H
def spString : Sp := fun vs H Q _ => ∃ (D A : Addr) (m : Int), vs = [.ref D, .ref A, .int m] ∧ Dr H D A ∧ 5 ≤ m ∧ m ≤ 1000000 ∧
  ∀ (H' : Hp) (z : Str), z.length ≤ m → isPr z = true → Mod A H H' → Dr H' D A → Q (.str z) H'
section
variable {P : Program} {w : World} {K : PySem.W.Frag} {mg : Str → Option Value} {base : Heap}
theorem c__law_big (T : Txt K mg) : Cal P w K mg base 2 "_law_big" spBig [] := by
  have c__law_next := c__law_next (P := P) (w := w) (base := base) T
  refine cal T.d__law_big sc__law_big (fun vs H Q E h => ?_) (fun f cdv A' outer s H vs Q E hr h => ?_)
  · obtain ⟨D, A, m, rfl, _⟩ := h; rfl
  obtain ⟨D, A, m, rfl, dr, hm, q⟩ := h
  refine ⟨_, (pss_cons (ps_set (i := 3) sc__law_big.nd rfl (Or.inl rfl) pe_int)
      (pss_cons (ps_for PassesOwn.never rfl (pi_range1 (by rfl) T.z_range (pa_cons pe_int pa_nil)) (pg_name (i := 4) sc__law_big.nd rfl (Or.inl rfl)) (pss_one (ps_set (i := 3) sc__law_big.nd rfl (Or.inl rfl) (pe_op op_add (pe_op op_mul pe_int (pv 3)) (pe_c c__law_next hr (by decide) (by rfl) (pa_cons (pv 0) (pa_cons (pv 1) (pa_cons pe_int pa_nil))))))))
      (pss_one (ps_ret (pe_op op_mod (pe_callTy call_int1 (by rfl) T.z_int (by decide +kernel) (pa_cons (pv 3) pa_nil)) (pv 2)))))), ?_⟩
  walk_at "rds"
  refine for_it walk_range (Pv := fun i σ H' => ∃ (n : Int) (y : Option V), σ = [some (.ref D), some (.ref A), some (.int m), some (.int n), y] ∧ 0 ≤ n ∧ Mod A H H' ∧ Dr H' D A) ⟨0, none, rfl, by decide, Mod.refl, dr⟩ (fun _ _ _ _ _ => trivial) (fun i x σ H1 H2 hi hp hy => ?_) (fun σ H1 hp => ?_)
  · obtain ⟨n, y, rfl, hn, md, dr⟩ := hp
    obtain ⟨rfl, rfl⟩ := hy
    walk_at "rds"
    refine ⟨D, A, 1000, rfl, dr, by decide, fun H3 r r0 r1 md3 dr3 => ?_⟩
    walk_at "rds"
    exact ⟨_, _, rfl, by omega, md.trans md3, dr3⟩
  · obtain ⟨n, y, rfl, hn, md, dr⟩ := hp
    walk_at "rds"
    exact q _ _ (Int.emod_nonneg _ (by omega)) (Int.emod_lt_of_pos _ (by omega)) md dr
theorem c__law_char (T : Txt K mg) : Cal P w K mg base 1 "_law_char" spChar [] := by
  refine cal T.d__law_char sc__law_char (fun vs H Q E h => ?_) (fun f cdv A' outer s H vs Q E hr h => ?_)
  · obtain ⟨n, rfl, _⟩ := h; rfl
  obtain ⟨n, rfl, q⟩ := h
  refine ⟨_, (pss_cons (ps_set (i := 1) sc__law_char.nd rfl (Or.inl rfl) pe_str)
      (pss_cons (ps_set (i := 1) sc__law_char.nd rfl (Or.inl rfl) (pe_op op_add_str (pv 1) pe_str))
      (pss_one (ps_ret (pe_ix ix_str (pv 1) (pe_op op_mod (pe_callTy call_int1 (by rfl) T.z_int (by decide +kernel) (pa_cons (pv 0) pa_nil)) pe_int) (fun _ _ => rfl)))))), ?_⟩
  walk_at "rds"
  have e94 : ∀ z : Str, z = Str.ofString " !\"#$&'()*+,-./0123456789:;<=>?@ABCDEFGHIJKLMNOPQRSTUVWXYZ[\\]^_`" ++ Str.ofString "abcdefghijklmnopqrstuvwxyz{|}~" → z.length = 94 ∧ isPr z = true := by
    intro z e; subst e; exact ⟨by decide +kernel, by decide +kernel⟩
  generalize Str.ofString " !\"#$&'()*+,-./0123456789:;<=>?@ABCDEFGHIJKLMNOPQRSTUVWXYZ[\\]^_`" ++ Str.ofString "abcdefghijklmnopqrstuvwxyz{|}~" = z at e94
  obtain ⟨hz, hp⟩ := e94 z rfl
  obtain ⟨c, hc⟩ := chr_at (z := z) (i := n % 94) (by omega) (by rw [hz]; omega)
  have hm : c ∈ z.cps.toList := by
    obtain ⟨j, _, e, _⟩ := atI_get hc
    exact List.mem_of_getElem? e
  refine ⟨_, _, c, rfl, rfl, by rw [hz]; exact sz1000 (by omega), hc, ?_⟩
  exact q c (List.all_eq_true.mp hp c hm)
theorem c__law_string (T : Txt K mg) : Cal P w K mg base 2 "_law_string" spString [] := by
  have c__law_next := c__law_next (P := P) (w := w) (base := base) T
  have c__law_char := c__law_char (P := P) (w := w) (base := base) T
  refine cal T.d__law_string sc__law_string (fun vs H Q E h => ?_) (fun f cdv A' outer s H vs Q E hr h => ?_)
  · obtain ⟨D, A, m, rfl, _⟩ := h; rfl
  obtain ⟨D, A, m, rfl, dr, hm, hm2, q⟩ := h
  refine ⟨_, (pss_cons (ps_set (i := 3) sc__law_string.nd rfl (Or.inl rfl) (pe_c c__law_next hr (by decide) (by rfl) (pa_cons (pv 0) (pa_cons (pv 1) (pa_cons pe_int pa_nil)))))
      (pss_cut (ps_if (pt_cmpR op_eq (pe_c c__law_next hr (by decide) (by rfl) (pa_cons (pv 0) (pa_cons (pv 1) (pa_cons pe_int pa_nil)))) pe_int (nomark _)) (pss_one (ps_set (i := 3) sc__law_string.nd rfl (Or.inl rfl) (pe_c c__law_next hr (by decide) (by rfl) (pa_cons (pv 0) (pa_cons (pv 1) (pa_cons (pe_op op_add (pv 2) pe_int) pa_nil)))))) pss_nil)
      (pss_cut (ps_if (pt_cmpR op_eq (pe_c c__law_next hr (by decide) (by rfl) (pa_cons (pv 0) (pa_cons (pv 1) (pa_cons pe_int pa_nil)))) pe_int (nomark _)) (pss_one (ps_set (i := 3) sc__law_string.nd rfl (Or.inl rfl) (pv 2))) pss_nil)
      (pss_cons (ps_set (i := 4) sc__law_string.nd rfl (Or.inl rfl) (pe_c c__law_next hr (by decide) (by rfl) (pa_cons (pv 0) (pa_cons (pv 1) (pa_cons pe_int pa_nil)))))
      (pss_cons (ps_set (i := 5) sc__law_string.nd rfl (Or.inl rfl) (pe_c c__law_next hr (by decide) (by rfl) (pa_cons (pv 0) (pa_cons (pv 1) (pa_cons pe_int pa_nil)))))
      (pss_cons (ps_set (i := 6) sc__law_string.nd rfl (Or.inl rfl) pe_str)
      (pss_cons (ps_for PassesOwn.never rfl (pi_range1 (by rfl) T.z_range (pa_cons (pv 3) pa_nil)) (pg_name (i := 7) sc__law_string.nd rfl (Or.inl rfl)) (pss_one (ps_if (pt_cmpR op_lt (pv 7) pe_int (nomark _)) (pss_one (ps_set (i := 6) sc__law_string.nd rfl (Or.inl rfl) (pe_op op_add_str (pv 6) (pe_c c__law_char hr (by decide) (by rfl) (pa_cons (pe_c c__law_next hr (by decide) (by rfl) (pa_cons (pv 0) (pa_cons (pv 1) (pa_cons pe_int pa_nil)))) pa_nil))))) (pss_one (ps_set (i := 6) sc__law_string.nd rfl (Or.inl rfl) (pe_op op_add_str (pv 6) (pe_c c__law_char hr (by decide) (by rfl) (pa_cons (pe_op op_add (pv 4) (pe_op op_mul (pv 5) (pv 7))) pa_nil))))))))
      (pss_one (ps_ret (pv 6)))))))))), ?_⟩
  walk_at "rds"
  refine ⟨D, A, 6, rfl, dr, by decide, fun H1 s1 s10 s11 md1 dr1 => ?_⟩
  obtain ⟨s1, rfl⟩ := Int.eq_ofNat_of_zero_le s10
  refine ⟨fun σ' H' => ∃ n : Nat, σ' = [some (.ref D), some (.ref A), some (.int m), some (.int n), none, none, none, none] ∧ (n : Int) ≤ m ∧ Mod A H H' ∧ Dr H' D A, ?_, ?_⟩
  · walk_at "rds"
    refine ⟨D, A, 7, rfl, dr1, by decide, fun H2 s2 s20 s21 md2 dr2 => ?_⟩
    walk_at "rds"
    refine ite2 (fun _ => ?_) (fun _ => ?_)
    · walk_at "rds"
      refine ⟨D, A, _, rfl, dr2, by omega, fun H3 s3 s30 s31 md3 dr3 => ?_⟩
      obtain ⟨s3, rfl⟩ := Int.eq_ofNat_of_zero_le s30
      exact ⟨s3, rfl, by omega, (md1.trans md2).trans md3, dr3⟩
    · exact ⟨s1, rfl, by omega, md1.trans md2, dr2⟩
  rintro σ' H2 ⟨n, rfl, hn, md2, dr2⟩
  refine ⟨fun σ' H' => ∃ n : Nat, σ' = [some (.ref D), some (.ref A), some (.int m), some (.int n), none, none, none, none] ∧ (n : Int) ≤ m ∧ Mod A H H' ∧ Dr H' D A, ?_, ?_⟩
  · walk_at "rds"
    refine ⟨D, A, 9, rfl, dr2, by decide, fun H3 s3 s30 s31 md3 dr3 => ?_⟩
    walk_at "rds"
    obtain ⟨m, rfl⟩ := Int.eq_ofNat_of_zero_le (show 0 ≤ m by omega)
    refine ite2 (fun _ => ?_) (fun _ => ?_)
    · walk_at "rds"
      exact ⟨m, rfl, by omega, md2.trans md3, dr3⟩
    · exact ⟨n, rfl, by omega, md2.trans md3, dr3⟩
  rintro σ' H3 ⟨n, rfl, hn, md3, dr3⟩
  walk_at "rds"
  refine ⟨D, A, 94, rfl, dr3, by decide, fun H4 f1 f10 f11 md4 dr4 => ?_⟩
  walk_at "rds"
  refine ⟨D, A, 3, rfl, dr4, by decide, fun H5 f2 f20 f21 md5 dr5 => ?_⟩
  walk_at "rds"
  refine for_it walk_range (Pv := fun i σ H' => ∃ (z : Str) (y : Option V), σ = [some (.ref D), some (.ref A), some (.int m), some (.int n), some (.int f1), some (.int f2), some (.str z), y] ∧ z.length = i ∧ isPr z = true ∧ Mod A H H' ∧ Dr H' D A) ⟨Str.ofString "", none, rfl, by decide, by decide, (md3.trans md4).trans md5, dr5⟩ (fun _ _ _ _ _ => trivial) (fun i x σ H6 H7 hi hp hy => ?_) (fun σ H6 hp => ?_)
  · obtain ⟨z, y, rfl, hz, hpz, md, dr⟩ := hp
    obtain ⟨rfl, rfl⟩ := hy
    have hi' : i < n := by omega
    have one : ∀ c : Nat, prC c = true → (z ++ ⟨#[c]⟩ : Str).length = i + 1 ∧ isPr (z ++ ⟨#[c]⟩) = true := fun c hc => by
      refine ⟨by rw [Str.length_append, hz]; rfl, ?_⟩
      rw [isPr_app, hpz]
      show (true && List.all [c] prC) = true
      rw [List.all_cons, hc]; rfl
    walk_at "rds"
    refine ite2 (fun _ => ?_) (fun _ => ?_)
    · walk_at "rds"
      refine ⟨D, A, 94, rfl, dr, by decide, fun H8 f3 f30 f31 md8 dr8 => ?_⟩
      refine ⟨f3, rfl, fun c hc => ?_⟩
      have l1 : (⟨#[c]⟩ : Str).length = 1 := rfl
      refine ⟨_, _, rfl, rfl, by rw [l1]; exact sz1000'' (by omega), ?_⟩
      exact ⟨_, _, rfl, (one c hc).1, (one c hc).2, md.trans md8, dr8⟩
    · walk_at "rds"
      intro c hc
      have l1 : (⟨#[c]⟩ : Str).length = 1 := rfl
      refine ⟨_, _, rfl, rfl, by rw [l1]; exact sz1000'' (by omega), ?_⟩
      exact ⟨_, _, rfl, (one c hc).1, (one c hc).2, md, dr⟩
  · obtain ⟨z, y, rfl, hz, hpz, md, dr⟩ := hp
    walk_at "rds"
    exact q _ z (by omega) hpz md dr
end

/-! ### is_integer, is_printable -/
/-- no int, told by its type -/
def NoInt (K : PySem.W.Frag) (H : Hp) (v : V) : Prop := ∃ T, TyX K H v (.type T) ∧ (kitB T "int" = some false ∨ (kitB T "int" = some true ∧ kitB T "bool" = some true))
def spInt (K : PySem.W.Frag) : Sp := fun vs H Q _ => ∃ (v : V) (lo hi : Int), vs = [v, .int lo, .int hi] ∧ ((∃ i, v = .int i ∧ Q (.bl (decide (lo ≤ i ∧ i ≤ hi))) H) ∨ (NoInt K H v ∧ Q (.bl false) H))
section
variable {P : Program} {w : World} {K : PySem.W.Frag} {mg : Str → Option Value} {base : Heap}
theorem c_is_integer (T : Txt K mg) : Cal P w K mg base 1 "is_integer" (spInt K) [] := by
  refine cal T.d_is_integer sc_is_integer (fun vs H Q E h => ?_) (fun f cdv A outer s H vs Q E hr h => ?_)
  · obtain ⟨v, lo, hi, rfl, _⟩ := h; rfl
  obtain ⟨v, lo, hi, rfl, h⟩ := h
  refine ⟨_, (pss_one (ps_ret (pe_and (pe_callB (kisi (K := K)) (by rfl) T.z_isinstance (by decide +kernel) (pa_cons (pv 0) (pa_cons (pe_bltn (v := .ty "int") (by rfl) T.z_int (by decide +kernel) rfl) pa_nil))) (pe_and (pe_not (pe_callB (kisi (K := K)) (by rfl) T.z_isinstance (by decide +kernel) (pa_cons (pv 0) (pa_cons (pe_bltn (v := .ty "bool") (by rfl) T.z_bool (by decide +kernel) rfl) pa_nil)))) (pe_one (pe_chain op_le op_le (pv 1) (pv 0) (pv 2))))))), ?_⟩
  rcases h with ⟨i, rfl, q⟩ | ⟨⟨T, ty, hk⟩, q⟩
  · walk_at "rds"
    walk_at "isi"
    walk_at "rds"
    walk_at "isi"
    walk_at "rds"
    refine ite2 (fun e => ?_) (fun e => ?_)
    · have e := of_decide_eq_true e
      walk_at "rds"
      have e2 : decide (lo ≤ i ∧ i ≤ hi) = decide (i ≤ hi) := by simp [e]
      rw [e2] at q
      exact q
    · have e : ¬ lo ≤ i := fun z => e (decide_eq_true z)
      have e2 : decide (lo ≤ i ∧ i ≤ hi) = false := by simp [e]
      rw [e2] at q
      exact q
  · walk_at "rds"
    rcases hk with hk | ⟨hk, hb⟩
    · refine ⟨_, .ty _, _, _, false, rfl, .ty _, ty, kit_ty hk, ?_⟩
      walk_at "rds"
      exact q
    · refine ⟨_, .ty _, _, _, true, rfl, .ty _, ty, kit_ty hk, ?_⟩
      walk_at "rds"
      refine ⟨_, .ty _, _, _, true, rfl, .ty _, ty, kit_ty hb, ?_⟩
      walk_at "rds"
      exact q
end
def NoStr (K : PySem.W.Frag) (H : Hp) (v : V) : Prop := ∃ T, TyX K H v (.type T) ∧ kitB T "str" = some false
def spPrint (K : PySem.W.Frag) : Sp := fun vs H Q _ => ∃ (v : V), vs = [v] ∧ ((∃ z : Str, v = .str z ∧ z.length ≤ 16000000 ∧ ∀ H', Same H H' → Q (.bl (isPr z)) H') ∨ (NoStr K H v ∧ Q (.bl false) H))
theorem print128 : ∀ c : Nat, c < 128 → (Unicode.isPrintable c = true ↔ (32 ≤ c ∧ c ≤ 126)) := by
  intro c hc
  have h : ∀ c : Fin 128, (Unicode.isPrintable c.val = true ↔ (32 ≤ c.val ∧ c.val ≤ 126)) := by decide +kernel
  exact h ⟨c, hc⟩
theorem asc_list {z : Str} : Txt.isascii z = true ↔ ∀ c ∈ z.cps.toList, c < 128 := by
  unfold Txt.isascii
  rw [← Array.all_toList, List.all_eq_true]
  simp
theorem pri_list {z : Str} : Txt.isprintable z = true ↔ ∀ c ∈ z.cps.toList, Unicode.isPrintable c = true := by
  unfold Txt.isprintable
  rw [← Array.all_toList, List.all_eq_true]
theorem isPr_iff {z : Str} : isPr z = true ↔ ∀ c ∈ z.cps.toList, 32 ≤ c ∧ c ≤ 126 ∧ c ≠ 37 := by
  unfold isPr
  rw [List.all_eq_true]
  simp [prC, and_assoc]
theorem out37_len {l : List Nat} : (out37 l).length = l.length ↔ ∀ c ∈ l, c ≠ 37 := by
  unfold out37
  rw [List.length_filter_eq_length_iff]
  simp
section
variable {P : Program} {w : World} {K : PySem.W.Frag} {mg : Str → Option Value} {base : Heap}
theorem c_is_printable (T : Txt K mg) : Cal P w K mg base 1 "is_printable" (spPrint K) [] := by
  refine cal T.d_is_printable sc_is_printable (fun vs H Q E h => ?_) (fun f cdv A outer s H vs Q E hr h => ?_)
  · obtain ⟨v, rfl, _⟩ := h; rfl
  obtain ⟨v, rfl, h⟩ := h
  refine ⟨_, (pss_cons (ps_if (PW.pt (pw_or (pt_not (pt_val (pe_callB (kisi (K := K)) (by rfl) T.z_isinstance (by decide +kernel) (pa_cons (pv 0) (pa_cons (pe_bltn (v := .ty "str") (by rfl) T.z_str (by decide +kernel) rfl) pa_nil))))) (pw_or (pt_not (pt_val (pe_bm0 PySem.F.plainAttrs_str PySem.F.slot_str_isascii PySem.F.type_str_isascii mt_isascii (pv 0)))) (pw_or1 (pt_not (pt_val (pe_bm0 PySem.F.plainAttrs_str PySem.F.slot_str_isprintable PySem.F.type_str_isprintable mt_isprintable (pv 0)))))))) (pss_one (ps_ret pe_bl)) pss_nil)
      (pss_one (ps_ret (pe_cmpR op_eq (pe_callB call_len_str (by rfl) T.z_len (by decide +kernel) (pa_cons (pe_bm PySem.F.plainAttrs_str PySem.F.slot_str_translate PySem.F.type_str_translate (mt_tr37 rfl) (pv 0) (pa_cons (pe_disp (pps_cons pe_int pe_non pps_nil) rfl rfl (by intro z; cases z) (by decide)) pa_nil)) pa_nil)) (pe_callB call_len_str (by rfl) T.z_len (by decide +kernel) (pa_cons (pv 0) pa_nil)) (nomark _))))), ?_⟩
  rcases h with ⟨z, rfl, hz, q⟩ | ⟨⟨T, ty, hk⟩, q⟩
  · walk_at "rds"
    walk_at "isi"
    walk_at "rds"
    refine ⟨rfl, _, rfl, rfl, trivial, ?_⟩
    walk_at "rds"
    cases ha : Txt.isascii z with
    | false =>
      have e : isPr z = false := by
        cases e : isPr z with
        | false => rfl
        | true =>
          have := asc_list.mpr (fun c hc => by have := isPr_iff.mp e c hc; omega)
          rw [ha] at this; cases this
      rw [e] at q
      walk_at "rds"
      exact q H (Same.refl H)
    | true =>
      have ha := asc_list.mp ha
      walk_at "rds"
      refine ⟨rfl, _, rfl, rfl, trivial, ?_⟩
      walk_at "rds"
      cases hp : Txt.isprintable z with
      | false =>
        have e : isPr z = false := by
          cases e : isPr z with
          | false => rfl
          | true =>
            have := pri_list.mpr (fun c hc => by have := isPr_iff.mp e c hc; exact (print128 c (by omega)).mpr ⟨by omega, by omega⟩)
            rw [hp] at this; cases this
        rw [e] at q
        walk_at "rds"
        exact q H (Same.refl H)
      | true =>
        have hp := pri_list.mp hp
        walk_at "rds"
        refine ⟨rfl, fun p np => ?_⟩
        refine ⟨upd_same, [(Sum.inl 37, .non)], rfl, by decide, ?_⟩
        refine ⟨z, p, rfl, rfl, upd_same, ha, hz, ?_⟩
        have l37 : (SX.S (out37 z.cps.toList)).length ≤ 16000000 := by
          rw [SX.S_len]
          exact Nat.le_trans (List.length_filter_le _ _) (by rw [len_tl]; exact hz)
        walk_at "rds"
        have e : decide (V.int ((SX.S (out37 z.cps.toList)).length : Int) = V.int (z.length : Int)) = isPr z := by
          rw [SX.S_len]
          have hl := @out37_len z.cps.toList
          rw [len_tl] at hl
          cases e : isPr z with
          | true =>
            refine decide_eq_true ?_
            rw [hl.mpr (fun c hc => (isPr_iff.mp e c hc).2.2)]
          | false =>
            refine decide_eq_false fun z' => ?_
            have h1 := hl.mp (Int.ofNat.inj (V.int.inj z'))
            have : isPr z = true := isPr_iff.mpr (fun c hc => ⟨((print128 c (ha c hc)).mp (hp c hc)).1, ((print128 c (ha c hc)).mp (hp c hc)).2, h1 c hc⟩)
            rw [e] at this; cases this
        rw [← e] at q
        exact q _ (same_mut (same_upd np) np)
  · walk_at "rds"
    refine ⟨_, .ty _, _, _, false, rfl, .ty _, ty, kit_ty hk, ?_⟩
    walk_at "rds"
    exact q
end


/-! ### values as data: what stands at them does not change -/
def TupAt (K : PySem.W.Frag) (H : Hp) (a : Addr) (xs : List V) : Prop := H a = some (.tup xs) ∨ KTup K a xs
section
variable {K : PySem.W.Frag}
theorem TupAt.sq {H : Hp} {a : Addr} {xs : List V} (h : TupAt K H a xs) : SqT K H a xs := h.elim SqT.of .inr
theorem TupAt.ty {H : Hp} {a : Addr} {xs : List V} (h : TupAt K H a xs) : TyX K H (.ref a) (.type "tuple") := h.elim (fun h => .base (.tup h)) (fun ⟨_, _, _, h1, h2, _⟩ => .kTuple h1 h2)
theorem TupAt.same {H H' : Hp} {a : Addr} {xs : List V} (h : TupAt K H a xs) (s : Same H H') : TupAt K H' a xs := h.imp (s _ _) id
/-- none of those at A (none: no matter) -/
def NeA (A : Option Addr) (a : Addr) : Prop := match A with | some b => a ≠ b | none => True
mutual
/-- v is the data d; the lists in it are none of those at A -/
inductive Dt (K : PySem.W.Frag) (H : Hp) (A : Option Addr) : V → PyData → Prop
  | non : Dt K H A .non .none
  | bl (b : Bool) : Dt K H A (.bl b) (.bool b)
  | int (i : Int) : Dt K H A (.int i) (.int i)
  | str (z : Str) (h : z.length ≤ 1000000) : Dt K H A (.str z) (.str z)
  | lst {a : Addr} {xs : List V} {ds : List PyData} : NeA A a → H a = some (.lst xs) → DtAll K H A xs ds → Dt K H A (.ref a) (.list ds)
  | tup {a : Addr} {xs : List V} {ds : List PyData} : TupAt K H a xs → DtAll K H A xs ds → Dt K H A (.ref a) (.tuple ds)
inductive DtAll (K : PySem.W.Frag) (H : Hp) (A : Option Addr) : List V → List PyData → Prop
  | nil : DtAll K H A [] []
  | cons {v : V} {vs : List V} {d : PyData} {ds : List PyData} : Dt K H A v d → DtAll K H A vs ds → DtAll K H A (v :: vs) (d :: ds)
end
theorem DtAll.length {H : Hp} {A : Option Addr} : ∀ {xs : List V} {ds : List PyData}, DtAll K H A xs ds → xs.length = ds.length
  | _, _, .nil => rfl
  | _, _, .cons _ r => by rw [List.length_cons, List.length_cons, r.length]
theorem DtAll.get {H : Hp} {A : Option Addr} : ∀ {xs : List V} {ds : List PyData} {i : Nat} {x : V}, DtAll K H A xs ds → xs[i]? = some x → ∃ d, ds[i]? = some d ∧ Dt K H A x d
  | _, _, _, _, .nil, e => by simp at e
  | _, _, 0, x, .cons h _, e => by simp at e; subst e; exact ⟨_, rfl, h⟩
  | _, _, i + 1, x, .cons _ r, e => by
    obtain ⟨d, h1, h2⟩ := r.get (i := i) (x := x) (by simpa using e)
    exact ⟨d, by simpa using h1, h2⟩
theorem DtAll.getD {H : Hp} {A : Option Addr} {xs : List V} {ds : List PyData} {i : Nat} {d : PyData} (h : DtAll K H A xs ds) (e : ds[i]? = some d) : ∃ x, xs[i]? = some x ∧ Dt K H A x d := by
  have hi : i < ds.length := (List.getElem?_eq_some_iff.mp e).1
  have hi' : i < xs.length := by rw [h.length]; exact hi
  obtain ⟨d', h1, h2⟩ := h.get (List.getElem?_eq_getElem hi')
  rw [e] at h1
  cases h1
  exact ⟨_, List.getElem?_eq_getElem hi', h2⟩
mutual
theorem Dt.mod {H H' : Hp} {A D : Addr} (s : Mod A H H') (dr : Dr H D A) : ∀ (d : PyData) (v : V), Dt K H (some A) v d → Dt K H' (some A) v d
  | .none, _, h => by cases h; exact .non
  | .bool b, _, h => by cases h; exact .bl b
  | .int i, _, h => by cases h; exact .int i
  | .str z, _, h => by cases h with | str _ hz => exact .str z hz
  | .list ds, _, h => by cases h with | lst hn ha hd => exact .lst hn (s _ _ hn ha) (DtAll.mod s dr ds _ hd)
  | .tuple ds, _, h => by
    cases h with
    | tup ha hd =>
      obtain ⟨_, _, _, _, e, _⟩ := id dr
      exact .tup (ha.imp (fun ha => s _ _ (ne_of ha e (by intro z; cases z)) ha) id) (DtAll.mod s dr ds _ hd)
  | .dict _, _, h => by cases h
theorem DtAll.mod {H H' : Hp} {A D : Addr} (s : Mod A H H') (dr : Dr H D A) : ∀ (ds : List PyData) (xs : List V), DtAll K H (some A) xs ds → DtAll K H' (some A) xs ds
  | [], _, h => by cases h; exact .nil
  | d :: ds, _, h => by cases h with | cons h1 h2 => exact .cons (Dt.mod s dr d _ h1) (DtAll.mod s dr ds _ h2)
end
mutual
theorem Dt.same {H H' : Hp} {A : Option Addr} (s : Same H H') : ∀ (d : PyData) (v : V), Dt K H A v d → Dt K H' A v d
  | .none, _, h => by cases h; exact .non
  | .bool b, _, h => by cases h; exact .bl b
  | .int i, _, h => by cases h; exact .int i
  | .str z, _, h => by cases h with | str _ hz => exact .str z hz
  | .list ds, _, h => by cases h with | lst hn ha hd => exact .lst hn (s _ _ ha) (DtAll.same s ds _ hd)
  | .tuple ds, _, h => by cases h with | tup ha hd => exact .tup (ha.same s) (DtAll.same s ds _ hd)
  | .dict _, _, h => by cases h
theorem DtAll.same {H H' : Hp} {A : Option Addr} (s : Same H H') : ∀ (ds : List PyData) (xs : List V), DtAll K H A xs ds → DtAll K H' A xs ds
  | [], _, h => by cases h; exact .nil
  | d :: ds, _, h => by cases h with | cons h1 h2 => exact .cons (Dt.same s d _ h1) (DtAll.same s ds _ h2)
end
mutual
/-- data for a comparison -/
theorem Dt.dp {H : Hp} {A : Option Addr} : ∀ (d : PyData) (v : V), Dt K H A v d → Dp K H v d
  | .none, _, h => by cases h; exact .non
  | .bool b, _, h => by cases h; exact .bl b
  | .int i, _, h => by cases h; exact .int i
  | .str z, _, h => by cases h; exact .str z
  | .list ds, _, h => by cases h with | lst hn ha hd => exact .lst (SqL.of ha) (DtAll.dp ds _ hd)
  | .tuple ds, _, h => by cases h with | tup ha hd => exact .tup ha.sq (DtAll.dp ds _ hd)
  | .dict _, _, h => by cases h
theorem DtAll.dp {H : Hp} {A : Option Addr} : ∀ (ds : List PyData) (xs : List V), DtAll K H A xs ds → DpAll K H xs ds
  | [], _, h => by cases h; exact .nil
  | d :: ds, _, h => by cases h with | cons h1 h2 => exact .cons (Dt.dp d _ h1) (DtAll.dp ds _ h2)
end
theorem Dt.on {H H' : Hp} {A : Option Addr} {v : V} {d : PyData} (h : Dt K H A v d) (s : Same H H') : Dt K H' A v d := Dt.same s d v h
theorem DtAll.on {H H' : Hp} {A : Option Addr} {xs : List V} {ds : List PyData} (h : DtAll K H A xs ds) (s : Same H H') : DtAll K H' A xs ds := DtAll.same s ds xs h
theorem Dt.by {H H' : Hp} {A D : Addr} {v : V} {d : PyData} (h : Dt K H (some A) v d) (s : Mod A H H') (dr : Dr H D A) : Dt K H' (some A) v d := Dt.mod s dr d v h
theorem DtAll.by {H H' : Hp} {A D : Addr} {xs : List V} {ds : List PyData} (h : DtAll K H (some A) xs ds) (s : Mod A H H') (dr : Dr H D A) : DtAll K H' (some A) xs ds := DtAll.mod s dr ds xs h
theorem Dt.two {H : Hp} {A : Option Addr} {v : V} {d : PyData} (h : Dt K H A v d) : (∃ a xs ds, v = .ref a ∧ d = .tuple ds ∧ TupAt K H a xs ∧ DtAll K H A xs ds) ∨ (∃ T, TyX K H v (.type T) ∧ kitB T "tuple" = some false ∧ ∀ ds, d ≠ .tuple ds) := by
  cases h with
  | tup ha hx => exact .inl ⟨_, _, _, rfl, rfl, ha, hx⟩
  | str z hz => exact .inr ⟨_, .base (.str z), by decide +kernel, fun _ z => nomatch z⟩
  | int i => exact .inr ⟨_, .base (.int i), by decide +kernel, fun _ z => nomatch z⟩
  | non => exact .inr ⟨_, .base .non, by decide +kernel, fun _ z => nomatch z⟩
  | bl b => exact .inr ⟨_, .base (.bl b), by decide +kernel, fun _ z => nomatch z⟩
  | lst _ ha _ => exact .inr ⟨_, .base (.lst ha), by decide +kernel, fun _ z => nomatch z⟩
/-- the kind of a value -/
def dTy : PyData → String
  | .none => "NoneType" | .bool _ => "bool" | .int _ => "int" | .str _ => "str" | .list _ => "list" | .tuple _ => "tuple" | .dict _ => "dict"
theorem Dt.ty {H : Hp} {A : Option Addr} {v : V} {d : PyData} (h : Dt K H A v d) : TyX K H v (.type (dTy d)) := by
  cases h with
  | non => exact .base .non
  | bl b => exact .base (.bl b)
  | int i => exact .base (.int i)
  | str z _ => exact .base (.str z)
  | lst _ ha _ => exact .base (.lst ha)
  | tup ha _ => exact ha.ty
/-! the predicates of the program, upon data -/
def dInt (lo hi : Int) : PyData → Bool
  | .int i => decide (lo ≤ i ∧ i ≤ hi)
  | _ => false
def dShort (m : Int) : PyData → Bool
  | .str z => isPr z && decide ((z.length : Int) ≤ m)
  | _ => false
def dCmd : PyData → Bool
  | .tuple [c, n, t] => dInt (-100) (-1) c && dInt 1 1000000000000 n && dShort 240 t
  | _ => false
def dClient : PyData → Int
  | .tuple (.int c :: _) => c
  | _ => 0
def dAfter : Option Int → PyData → Bool
  | some k, d => decide (k < dClient d)
  | none, _ => true
def befV : Option Int → V
  | some k => .int k
  | none => .non
def dCmdsFrom : Option Int → List PyData → Bool
  | _, [] => true
  | b, d :: r => dCmd d && dAfter b d && dCmdsFrom (some (dClient d)) r
theorem dCmdsFrom_cons (b : Option Int) (d : PyData) (r : List PyData) : dCmdsFrom b (d :: r) = (dCmd d && dAfter b d && dCmdsFrom (some (dClient d)) r) := by cases b <;> rfl
theorem dCmdsFrom_nil (b : Option Int) : dCmdsFrom b [] = true := by cases b <;> rfl
def dCmds : PyData → Bool
  | .tuple ds => dCmdsFrom none ds
  | _ => false
def dHeight (parent : Int) (h : PyData) : Bool := if parent = 0 then dInt 1 1 h else dInt 2 (parent + 1) h
def dBlock4 (e p h cs : PyData) : Bool := match e, p with
  | .int e, .int p => dInt 1 1000000000000 (.int e) && dInt 0 (e - 1) (.int p) && dHeight p h && dCmds cs
  | _, _ => false
def dBlock : PyData → Bool
  | .tuple [e, p, h, cs] => dBlock4 e p h cs
  | _ => false
def dEmpty : PyData → Bool
  | .tuple [] => true
  | _ => false
def dGen : PyData → Bool
  | .tuple [e, p, h, cs] => dInt 0 0 e && dInt 0 0 p && dInt 0 0 h && dEmpty cs
  | _ => false
theorem DtAll.four {H : Hp} {A : Option Addr} {xs : List V} {ds : List PyData} (h : DtAll K H A xs ds) (hl : xs.length = 4) :
    ∃ x1 x2 x3 x4 d1 d2 d3 d4, xs = [x1, x2, x3, x4] ∧ ds = [d1, d2, d3, d4] ∧ Dt K H A x1 d1 ∧ Dt K H A x2 d2 ∧ Dt K H A x3 d3 ∧ Dt K H A x4 d4 := by
  match xs, ds, h with
  | [_, _, _, _], _, .cons h1 (.cons h2 (.cons h3 (.cons h4 .nil))) => exact ⟨_, _, _, _, _, _, _, _, rfl, rfl, h1, h2, h3, h4⟩
theorem dBlock4_e1 {e p h cs : PyData} (z : dInt 1 1000000000000 e = false) : dBlock4 e p h cs = false := by
  unfold dBlock4
  split
  · rw [z]; rfl
  · rfl
theorem dBlock4_e2 {e : Int} {p h cs : PyData} (z : dInt 0 (e - 1) p = false) : dBlock4 (.int e) p h cs = false := by
  unfold dBlock4
  split
  · rename_i h1
    cases h1
    rw [z, Bool.and_false]; rfl
  · rfl
/-- a predicate of one value, kept by growing heaps -/
def spPred (K : PySem.W.Frag) (A : Option Addr) (f : PyData → Bool) : Sp := fun vs H Q _ => ∃ (v : V) (d : PyData), vs = [v] ∧ Dt K H A v d ∧ ∀ H', Same H H' → Q (.bl (f d)) H'
def spIntD (K : PySem.W.Frag) (A : Option Addr) : Sp := fun vs H Q _ => ∃ (v : V) (d : PyData) (lo hi : Int), vs = [v, .int lo, .int hi] ∧ Dt K H A v d ∧ Q (.bl (dInt lo hi d)) H
def spShortD (K : PySem.W.Frag) (A : Option Addr) : Sp := fun vs H Q _ => ∃ (v : V) (d : PyData) (m : Int), vs = [v, .int m] ∧ Dt K H A v d ∧ ∀ H', Same H H' → Q (.bl (dShort m d)) H'
theorem dInt_inv {lo hi : Int} {d : PyData} (h : dInt lo hi d = true) : ∃ i, d = .int i ∧ lo ≤ i ∧ i ≤ hi := by
  cases d with
  | int i =>
    have h : decide (lo ≤ i ∧ i ≤ hi) = true := h
    exact ⟨i, rfl, (of_decide_eq_true h).1, (of_decide_eq_true h).2⟩
  | none => cases h
  | bool b => cases h
  | str z => cases h
  | list ds => cases h
  | tuple ds => cases h
  | dict k => cases h
theorem dShort_inv {m : Int} {d : PyData} (h : dShort m d = true) : ∃ z : Str, d = .str z ∧ isPr z = true ∧ (z.length : Int) ≤ m := by
  cases d with
  | str z =>
    have h : (isPr z && decide ((z.length : Int) ≤ m)) = true := h
    obtain ⟨h1, h2⟩ := Bool.and_eq_true_iff.mp h
    exact ⟨z, rfl, h1, of_decide_eq_true h2⟩
  | none => cases h
  | bool b => cases h
  | int i => cases h
  | list ds => cases h
  | tuple ds => cases h
  | dict k => cases h
theorem dCmd_inv {d : PyData} (h : dCmd d = true) : ∃ (c n : Int) (t : Str), d = .tuple [.int c, .int n, .str t] ∧ -100 ≤ c ∧ c ≤ -1 ∧ 1 ≤ n ∧ n ≤ 1000000000000 ∧ isPr t = true ∧ (t.length : Int) ≤ 240 := by
  unfold dCmd at h
  split at h
  · rename_i c n t
    rw [Bool.and_eq_true, Bool.and_eq_true] at h
    obtain ⟨⟨h1, h2⟩, h3⟩ := h
    obtain ⟨c, rfl, c0, c1⟩ := dInt_inv h1
    obtain ⟨n, rfl, n0, n1⟩ := dInt_inv h2
    obtain ⟨t, rfl, t0, t1⟩ := dShort_inv h3
    exact ⟨c, n, t, rfl, c0, c1, n0, n1, t0, t1⟩
  · cases h
/-- what a tuple of three ints, ints, texts stands for -/
theorem Dt.three {H : Hp} {A : Option Addr} {v : V} {d1 d2 d3 : PyData} (h : Dt K H A v (.tuple [d1, d2, d3])) : ∃ a x1 x2 x3, v = .ref a ∧ TupAt K H a [x1, x2, x3] ∧ Dt K H A x1 d1 ∧ Dt K H A x2 d2 ∧ Dt K H A x3 d3 := by
  cases h with
  | tup ha hd =>
    cases hd with
    | cons h1 hd =>
      cases hd with
      | cons h2 hd =>
        cases hd with
        | cons h3 hd =>
          cases hd
          exact ⟨_, _, _, _, rfl, ha, h1, h2, h3⟩
mutual
theorem Dt.any {H : Hp} {A : Option Addr} : ∀ (d : PyData) (v : V), Dt K H A v d → Dt K H none v d
  | .none, _, h => by cases h; exact .non
  | .bool b, _, h => by cases h; exact .bl b
  | .int i, _, h => by cases h; exact .int i
  | .str z, _, h => by cases h with | str _ hz => exact .str z hz
  | .list ds, _, h => by cases h with | lst hn ha hd => exact .lst trivial ha (DtAll.any ds _ hd)
  | .tuple ds, _, h => by cases h with | tup ha hd => exact .tup ha (DtAll.any ds _ hd)
  | .dict _, _, h => by cases h
theorem DtAll.any {H : Hp} {A : Option Addr} : ∀ (ds : List PyData) (xs : List V), DtAll K H A xs ds → DtAll K H none xs ds
  | [], _, h => by cases h; exact .nil
  | d :: ds, _, h => by cases h with | cons h1 h2 => exact .cons (Dt.any d _ h1) (DtAll.any ds _ h2)
end
theorem Dt.an {H : Hp} {A : Option Addr} {v : V} {d : PyData} (h : Dt K H A v d) : Dt K H none v d := Dt.any d v h
/-! data without lists -/
mutual
def noL : PyData → Bool
  | .list _ => false
  | .tuple ds => noLs ds
  | _ => true
def noLs : List PyData → Bool
  | [] => true
  | d :: r => noL d && noLs r
end
/-- tracked tuples stay -/
def Tp (H H' : Hp) : Prop := ∀ a xs, H a = some (.tup xs) → H' a = some (.tup xs)
mutual
theorem Dt.keep {H H' : Hp} {A B : Option Addr} (t : Tp H H') : ∀ (d : PyData) (v : V), noL d = true → Dt K H A v d → Dt K H' B v d
  | .none, _, _, h => by cases h; exact .non
  | .bool b, _, _, h => by cases h; exact .bl b
  | .int i, _, _, h => by cases h; exact .int i
  | .str z, _, _, h => by cases h with | str _ hz => exact .str z hz
  | .list ds, _, n, _ => by cases n
  | .tuple ds, _, n, h => by cases h with | tup ha hd => exact .tup (ha.imp (t _ _) id) (DtAll.keep t ds _ n hd)
  | .dict _, _, _, h => by cases h
theorem DtAll.keep {H H' : Hp} {A B : Option Addr} (t : Tp H H') : ∀ (ds : List PyData) (xs : List V), noLs ds = true → DtAll K H A xs ds → DtAll K H' B xs ds
  | [], _, _, h => by cases h; exact .nil
  | d :: ds, _, n, h => by
    have n : (noL d && noLs ds) = true := n
    rw [Bool.and_eq_true] at n
    cases h with | cons h1 h2 => exact .cons (Dt.keep t d _ n.1 h1) (DtAll.keep t ds _ n.2 h2)
end
theorem DtAll.snoc {H : Hp} {A : Option Addr} : ∀ {xs : List V} {ds : List PyData} {x : V} {d : PyData}, DtAll K H A xs ds → Dt K H A x d → DtAll K H A (xs ++ [x]) (ds ++ [d])
  | _, _, _, _, .nil, h => .cons h .nil
  | _, _, _, _, .cons h r, h2 => .cons h (r.snoc h2)
theorem TupAt.tp {H H' : Hp} {a : Addr} {xs : List V} (h : TupAt K H a xs) (t : Tp H H') : TupAt K H' a xs := h.imp (t _ _) id
theorem Same.tp {H H' : Hp} (s : Same H H') : Tp H H' := fun _ _ h => s _ _ h
theorem Mod.tp {H H' : Hp} {A D : Addr} (s : Mod A H H') (dr : Dr H D A) : Tp H H' := fun a xs h => by
  obtain ⟨_, _, _, _, e, _⟩ := id dr
  exact s _ _ (ne_of h e (by intro z; cases z)) h
theorem tp_put {H : Hp} {l : Addr} {xs ys : List V} (h : H l = some (.lst xs)) : Tp H (upd H l (.lst ys)) := fun a zs e => by
  rw [upd_ne (ne_of e h (by intro z; cases z))]; exact e
theorem dCmd_noL {d : PyData} (h : dCmd d = true) : noL d = true := by
  obtain ⟨c, n, t, rfl, _⟩ := dCmd_inv h
  rfl
theorem dCmdsFrom_noL : ∀ {ds : List PyData} {b : Option Int}, dCmdsFrom b ds = true → noLs ds = true
  | [], _, _ => rfl
  | d :: r, b, h => by
    rw [dCmdsFrom_cons, Bool.and_eq_true, Bool.and_eq_true] at h
    show (noL d && noLs r) = true
    rw [dCmd_noL h.1.1, dCmdsFrom_noL h.2]; rfl
theorem dCmdsFrom_all : ∀ {ds : List PyData} {b : Option Int}, dCmdsFrom b ds = true → ∀ d ∈ ds, dCmd d = true
  | [], _, _, _, m => nomatch m
  | d :: r, b, h, e, m => by
    rw [dCmdsFrom_cons, Bool.and_eq_true, Bool.and_eq_true] at h
    rcases List.mem_cons.mp m with rfl | m
    · exact h.1.1
    · exact dCmdsFrom_all h.2 e m
def lastC : Option Int → List PyData → Option Int
  | b, [] => b
  | _, d :: r => lastC (some (dClient d)) r
theorem lastC_snoc : ∀ (ds : List PyData) (b : Option Int) (d : PyData), lastC b (ds ++ [d]) = some (dClient d)
  | [], _, _ => rfl
  | _ :: r, _, d => lastC_snoc r _ d
theorem dCmdsFrom_snoc : ∀ (ds : List PyData) (b : Option Int) (d : PyData), dCmdsFrom b (ds ++ [d]) = (dCmdsFrom b ds && (dCmd d && dAfter (lastC b ds) d))
  | [], b, d => by
    show dCmdsFrom b [d] = _
    rw [dCmdsFrom_cons, dCmdsFrom_nil, dCmdsFrom_nil, Bool.and_true, Bool.true_and]; rfl
  | e :: r, b, d => by
    show dCmdsFrom b (e :: (r ++ [d])) = _
    rw [dCmdsFrom_cons, dCmdsFrom_snoc r, dCmdsFrom_cons, Bool.and_assoc, Bool.and_assoc, Bool.and_assoc]; rfl
end
theorem noLs_all : ∀ {ds : List PyData}, (∀ d ∈ ds, noL d = true) → noLs ds = true
  | [], _ => rfl
  | d :: r, h => by
    show (noL d && noLs r) = true
    rw [h d List.mem_cons_self, noLs_all (fun e he => h e (List.mem_cons_of_mem _ he))]; rfl

/-! ### is_short, is_client, is_number, is_command, is_command_list -/
section
variable {P : Program} {w : World} {K : PySem.W.Frag} {mg : Str → Option Value} {base : Heap}
theorem c_is_integerD (T : Txt K mg) (A : Option Addr) : Cal P w K mg base 1 "is_integer" (spIntD K A) [] := by
  obtain ⟨f, fd, ps, ds, F, r⟩ := (c_is_integer (P := P) (w := w) (base := base) T).ex
  refine ⟨f, fd, ps, ds, F.imp fun vs H Q E h => ?_, r⟩
  obtain ⟨v, d, lo, hi, rfl, hd, q⟩ := h
  refine ⟨v, lo, hi, rfl, ?_⟩
  cases hd with
  | int i => exact .inl ⟨i, rfl, q⟩
  | non => exact .inr ⟨⟨_, .base .non, .inl (by decide +kernel)⟩, q⟩
  | bl b => exact .inr ⟨⟨_, .base (.bl b), .inr ⟨by decide +kernel, by decide +kernel⟩⟩, q⟩
  | str z _ => exact .inr ⟨⟨_, .base (.str z), .inl (by decide +kernel)⟩, q⟩
  | lst _ ha _ => exact .inr ⟨⟨_, .base (.lst ha), .inl (by decide +kernel)⟩, q⟩
  | tup ha _ => exact .inr ⟨⟨_, ha.ty, .inl (by decide +kernel)⟩, q⟩
theorem c_is_short (T : Txt K mg) (A : Option Addr) : Cal P w K mg base 2 "is_short" (spShortD K A) [] := by
  have c_is_printable := c_is_printable (P := P) (w := w) (base := base) T
  refine cal T.d_is_short sc_is_short (fun vs H Q E h => ?_) (fun f cdv A' outer s H vs Q E hr h => ?_)
  · obtain ⟨v, d, m, rfl, _⟩ := h; rfl
  obtain ⟨v, d, m, rfl, hd, q⟩ := h
  refine ⟨_, (pss_one (ps_ret (pe_and (pe_c c_is_printable hr (by decide) (by rfl) (pa_cons (pv 0) pa_nil)) (pe_one (pe_cmpR op_le (pe_callB call_len_str (by rfl) T.z_len (by decide +kernel) (pa_cons (pv 0) pa_nil)) (pv 1) (nomark _)))))), ?_⟩
  have two : (∃ z : Str, d = .str z ∧ v = .str z ∧ z.length ≤ 1000000) ∨ (NoStr K H v ∧ dShort m d = false) := by
    cases hd with
    | str z hz => exact .inl ⟨z, rfl, rfl, hz⟩
    | int i => exact .inr ⟨⟨_, .base (.int i), by decide +kernel⟩, rfl⟩
    | non => exact .inr ⟨⟨_, .base .non, by decide +kernel⟩, rfl⟩
    | bl b => exact .inr ⟨⟨_, .base (.bl b), by decide +kernel⟩, rfl⟩
    | lst _ ha _ => exact .inr ⟨⟨_, .base (.lst ha), by decide +kernel⟩, rfl⟩
    | tup ha _ => exact .inr ⟨⟨_, ha.ty, by decide +kernel⟩, rfl⟩
  rcases two with ⟨z, rfl, rfl, hz⟩ | ⟨hn, e⟩
  · refine ⟨_, rfl, .str z, rfl, .inl ⟨z, rfl, by omega, fun H' sm => ?_⟩⟩
    have q := q H' sm
    cases e : isPr z with
    | false =>
      rw [show dShort m (.str z) = false by show (isPr z && decide ((z.length : Int) ≤ m)) = false; rw [e]; rfl] at q
      refine ⟨_, rfl, ?_⟩
      exact q
    | true =>
      rw [show dShort m (.str z) = decide ((z.length : Int) ≤ m) by show (isPr z && decide ((z.length : Int) ≤ m)) = _; rw [e]; rfl] at q
      refine ⟨_, rfl, ?_⟩
      walk_at "rds"
      exact q
  · refine ⟨_, rfl, v, rfl, .inr ⟨hn, ?_⟩⟩
    rw [e] at q
    refine ⟨_, rfl, ?_⟩
    exact q H (Same.refl H)
theorem c_is_client (T : Txt K mg) (A : Option Addr) : Cal P w K mg base 2 "is_client" (spPred K A (dInt (-100) (-1))) [] := by
  have c_is_integer := c_is_integerD (P := P) (w := w) (base := base) T A
  refine cal T.d_is_client sc_is_client (fun vs H Q E h => ?_) (fun f cdv A' outer s H vs Q E hr h => ?_)
  · obtain ⟨v, d, rfl, _⟩ := h; rfl
  obtain ⟨v, d, rfl, hd, q⟩ := h
  refine ⟨_, (pss_one (ps_ret (pe_c c_is_integer hr (by decide) (by rfl) (pa_cons (pv 0) (pa_cons (pe_un un_neg (pe_gc (by rfl) T.c_MOST_CLIENTS)) (pa_cons (pe_un un_neg pe_int) pa_nil)))))), ?_⟩
  walk_at "rds"
  exact ⟨v, d, _, _, rfl, hd, q H (Same.refl H)⟩
theorem c_is_number (T : Txt K mg) (A : Option Addr) : Cal P w K mg base 2 "is_number" (spPred K A (dInt 1 1000000000000)) [] := by
  have c_is_integer := c_is_integerD (P := P) (w := w) (base := base) T A
  refine cal T.d_is_number sc_is_number (fun vs H Q E h => ?_) (fun f cdv A' outer s H vs Q E hr h => ?_)
  · obtain ⟨v, d, rfl, _⟩ := h; rfl
  obtain ⟨v, d, rfl, hd, q⟩ := h
  refine ⟨_, (pss_one (ps_ret (pe_c c_is_integer hr (by decide) (by rfl) (pa_cons (pv 0) (pa_cons pe_int (pa_cons (pe_gc (by rfl) T.c_MOST_NUMBER) pa_nil)))))), ?_⟩
  walk_at "rds"
  exact ⟨v, d, _, _, rfl, hd, q H (Same.refl H)⟩
theorem c_is_command (T : Txt K mg) (A : Option Addr) : Cal P w K mg base 3 "is_command" (spPred K A dCmd) [] := by
  have c_is_short := c_is_short (P := P) (w := w) (base := base) T A
  have c_is_client := c_is_client (P := P) (w := w) (base := base) T A
  have c_is_number := c_is_number (P := P) (w := w) (base := base) T A
  refine cal T.d_is_command sc_is_command (fun vs H Q E h => ?_) (fun f cdv A' outer s H vs Q E hr h => ?_)
  · obtain ⟨v, d, rfl, _⟩ := h; rfl
  obtain ⟨v, d, rfl, hd, q⟩ := h
  refine ⟨_, (pss_cons (ps_if (PW.pt (pw_or (pt_not (pt_val (pe_callB (kisi (K := K)) (by rfl) T.z_isinstance (by decide +kernel) (pa_cons (pv 0) (pa_cons (pe_bltn (v := .ty "tuple") (by rfl) T.z_tuple (by decide +kernel) rfl) pa_nil))))) (pw_or1 (pt_cmpR op_ne (pe_callB (klen (K := K)) (by rfl) T.z_len (by decide +kernel) (pa_cons (pv 0) pa_nil)) pe_int (nomark _))))) (pss_one (ps_ret pe_bl)) pss_nil)
      (pss_cons (ps_asg (pv 0) (pg_tup (by rfl) (pgs_cons (pg_name (i := 1) sc_is_command.nd rfl (Or.inl rfl)) (pgs_cons (pg_name (i := 2) sc_is_command.nd rfl (Or.inl rfl)) (pgs_cons (pg_name (i := 3) sc_is_command.nd rfl (Or.inl rfl)) pgs_nil)))))
      (pss_one (ps_ret (pe_and (pe_c c_is_client hr (by decide) (by rfl) (pa_cons (pv 1) pa_nil)) (pe_and (pe_c c_is_number hr (by decide) (by rfl) (pa_cons (pv 2) pa_nil)) (pe_one (pe_c c_is_short hr (by decide) (by rfl) (pa_cons (pv 3) (pa_cons (pe_gc (by rfl) T.c_MOST_TEXT) pa_nil)))))))))), ?_⟩
  walk_at "rds"
  have two : (∃ a xs ds, v = .ref a ∧ d = .tuple ds ∧ TupAt K H a xs ∧ DtAll K H A xs ds) ∨ (∃ T, TyX K H v (.type T) ∧ kitB T "tuple" = some false ∧ dCmd d = false) := by
    cases hd with
    | tup ha hx => exact .inl ⟨_, _, _, rfl, rfl, ha, hx⟩
    | str z hz => exact .inr ⟨_, .base (.str z), by decide +kernel, rfl⟩
    | int i => exact .inr ⟨_, .base (.int i), by decide +kernel, rfl⟩
    | non => exact .inr ⟨_, .base .non, by decide +kernel, rfl⟩
    | bl b => exact .inr ⟨_, .base (.bl b), by decide +kernel, rfl⟩
    | lst _ ha _ => exact .inr ⟨_, .base (.lst ha), by decide +kernel, rfl⟩
  rcases two with ⟨a, xs, ds, rfl, rfl, ha, hx⟩ | ⟨T, ty, hk, e⟩
  · refine ⟨_, .ty _, _, _, true, rfl, .ty _, ha.ty, kit_ty (by decide +kernel), ?_⟩
    walk_at "rds"
    refine ⟨a, xs, rfl, .inr (ha.sq), ?_⟩
    walk_at "rds"
    refine ite2 (fun e => ?_) (fun e => ?_)
    · have e2 : dCmd (.tuple ds) = false := by
        have hl := hx.length
        match ds with
        | [] => rfl
        | [_] => rfl
        | [_, _] => rfl
        | [_, _, _] =>
          exfalso
          have e : (!decide (V.int (xs.length : Int) = V.int 3)) = true := e
          rw [hl] at e
          exact absurd e (by show ¬ ((!decide (V.int 3 = V.int 3)) = true); decide)
        | _ :: _ :: _ :: _ :: _ => rfl
      rw [e2] at q
      exact q H (Same.refl H)
    · have hl : xs.length = 3 := by
        by_cases h3 : (xs.length : Int) = 3
        · omega
        · exfalso
          exact e (by show (!decide (V.int _ = V.int _)) = true; rw [decide_eq_false (fun z => h3 (V.int.inj z))]; rfl)
      cases hx with
      | nil => simp at hl
      | cons h1 hx =>
        cases hx with
        | nil => simp at hl
        | cons h2 hx =>
          cases hx with
          | nil => simp at hl
          | cons h3 hx =>
            cases hx with
            | cons _ _ => simp at hl
            | nil =>
              rename_i x1 d1 x2 d2 x3 d3
              walk_at "rds"
              refine ⟨a, _, rfl, ha.sq, rfl, _, _, rfl, _, _, rfl, _, _, rfl, rfl, ?_⟩
              walk_at "rds"
              refine ⟨_, d1, rfl, h1, fun H2 s2 => ?_⟩
              have q : ∀ H', Same H H' → Q (.bl (dInt (-100) (-1) d1 && dInt 1 1000000000000 d2 && dShort 240 d3)) H' := q
              refine ⟨_, rfl, ?_⟩
              cases e1 : dInt (-100) (-1) d1 with
              | false =>
                rw [e1] at q
                refine ifF rfl ?_
                exact q _ s2
              | true =>
                rw [e1] at q
                refine ifT rfl ?_
                walk_at "rds"
                refine ⟨_, d2, rfl, h2.on s2, fun H3 s3 => ?_⟩
                refine ⟨_, rfl, ?_⟩
                cases e2 : dInt 1 1000000000000 d2 with
                | false =>
                  rw [e2] at q
                  refine ifF rfl ?_
                  exact q _ (s2.trans s3)
                | true =>
                  rw [e2] at q
                  refine ifT rfl ?_
                  walk_at "rds"
                  refine ⟨_, d3, 240, rfl, (h3.on s2).on s3, fun H4 s4 => ?_⟩
                  exact q _ ((s2.trans s3).trans s4)
  · refine ⟨_, .ty _, _, _, false, rfl, .ty _, ty, kit_ty hk, ?_⟩
    walk_at "rds"
    rw [e] at q
    exact q H (Same.refl H)
theorem c_is_command_list (T : Txt K mg) (A : Option Addr) : Cal P w K mg base 4 "is_command_list" (spPred K A dCmds) [] := by
  have c_is_command := c_is_command (P := P) (w := w) (base := base) T A
  refine cal T.d_is_command_list sc_is_command_list (fun vs H Q E h => ?_) (fun f cdv A' outer s H vs Q E hr h => ?_)
  · obtain ⟨v, d, rfl, _⟩ := h; rfl
  obtain ⟨v, d, rfl, hd, q⟩ := h
  refine ⟨_, (pss_cons (ps_if (pt_not (pt_val (pe_callB (kisi (K := K)) (by rfl) T.z_isinstance (by decide +kernel) (pa_cons (pv 0) (pa_cons (pe_bltn (v := .ty "tuple") (by rfl) T.z_tuple (by decide +kernel) rfl) pa_nil))))) (pss_one (ps_ret pe_bl)) pss_nil)
      (pss_cons (ps_set (i := 1) sc_is_command_list.nd rfl (Or.inl rfl) pe_non)
      (pss_cons (ps_for PassesOwn.never rfl (pi_tup (pv 0)) (pg_name (i := 2) sc_is_command_list.nd rfl (Or.inl rfl)) (pss_cons (ps_if (pt_not (pt_val (pe_c c_is_command hr (by decide) (by rfl) (pa_cons (pv 2) pa_nil)))) (pss_one (ps_ret pe_bl)) pss_nil)
      (pss_cons (ps_if (PW.pt (pw_and (pt_cmpR op_notN (pv 1) pe_non (nomark _)) (pw_and1 (pt_cmpR op_le (pe_ix (kixt (K := K)) (pv 2) pe_int (fun _ _ => rfl)) (pv 1) (nomark _))))) (pss_one (ps_ret pe_bl)) pss_nil)
      (pss_one (ps_set (i := 1) sc_is_command_list.nd rfl (Or.inl rfl) (pe_ix (kixt (K := K)) (pv 2) pe_int (fun _ _ => rfl)))))))
      (pss_one (ps_ret pe_bl))))), ?_⟩
  walk_at "rds"
  have two : (∃ a xs ds, v = .ref a ∧ d = .tuple ds ∧ TupAt K H a xs ∧ DtAll K H A xs ds) ∨ (∃ T, TyX K H v (.type T) ∧ kitB T "tuple" = some false ∧ dCmds d = false) := by
    cases hd with
    | tup ha hx => exact .inl ⟨_, _, _, rfl, rfl, ha, hx⟩
    | str z hz => exact .inr ⟨_, .base (.str z), by decide +kernel, rfl⟩
    | int i => exact .inr ⟨_, .base (.int i), by decide +kernel, rfl⟩
    | non => exact .inr ⟨_, .base .non, by decide +kernel, rfl⟩
    | bl b => exact .inr ⟨_, .base (.bl b), by decide +kernel, rfl⟩
    | lst _ ha _ => exact .inr ⟨_, .base (.lst ha), by decide +kernel, rfl⟩
  rcases two with ⟨a, xs, ds, rfl, rfl, ha, hx⟩ | ⟨T, ty, hk, e⟩
  · refine ⟨_, .ty _, _, _, true, rfl, .ty _, ha.ty, kit_ty (by decide +kernel), ?_⟩
    walk_at "rds"
    refine ⟨⟨xs, ha.sq⟩, ?_⟩
    refine for_it (walk_tup (K := K) (a := a) (xs := xs)) (Pv := fun i σ H' => ∃ (b : Option Int) (y : Option V), σ = [some (.ref a), some (befV b), y] ∧ Same H H' ∧ dCmdsFrom none ds = dCmdsFrom b (ds.drop i)) ⟨none, none, rfl, Same.refl H, rfl⟩ (fun i σ H' _ h => by obtain ⟨_, _, _, sm, _⟩ := h; exact (ha.same sm).sq) (fun i x σ H2 H3 hi hp hy => ?_) (fun σ H2 hp => ?_)
    · obtain ⟨b, y, rfl, sm, eq⟩ := hp
      obtain ⟨rfl, gx⟩ := hy
      obtain ⟨d, gd, hdx⟩ := hx.get gx
      have hid : i < ds.length := (List.getElem?_eq_some_iff.mp gd).1
      have edrop : ds.drop i = d :: ds.drop (i + 1) := by
        rw [List.drop_eq_getElem_cons hid]
        rw [List.getElem?_eq_getElem hid] at gd
        cases gd; rfl
      rw [edrop, dCmdsFrom_cons] at eq
      have q : ∀ H', Same H H' → Q (.bl (dCmdsFrom none ds)) H' := q
      walk_at "rds"
      refine ⟨x, d, rfl, hdx.on sm, fun H4 s4 => ?_⟩
      refine ⟨_, rfl, ?_⟩
      cases ec : dCmd d with
      | false =>
        rw [ec] at eq
        refine ifT rfl ?_
        rw [show dCmdsFrom none ds = false from eq] at q
        exact q _ (sm.trans s4)
      | true =>
        rw [ec] at eq
        refine ifF rfl ?_
        obtain ⟨c, n, t, rfl, c0, c1, n0, n1, t0, t1⟩ := dCmd_inv ec
        obtain ⟨aq, x1, x2, x3, rfl, haq, h1, h2, h3⟩ := (hdx.on (sm.trans s4)).three
        cases h1
        have eq : dCmdsFrom none ds = (dAfter b (.tuple [.int c, .int n, .str t]) && dCmdsFrom (some c) (ds.drop (i + 1))) := eq
        cases b with
        | none =>
          walk_at "rds"
          refine ⟨aq, _, 0, _, rfl, rfl, haq.sq, atI_nat rfl, ?_⟩
          exact ⟨some c, some (.ref aq), rfl, sm.trans s4, by rw [eq]; rfl⟩
        | some k =>
          walk_at "rds"
          refine ⟨aq, _, 0, _, rfl, rfl, haq.sq, atI_nat rfl, ?_⟩
          walk_at "rds"
          have eq : dCmdsFrom none ds = (decide (k < c) && dCmdsFrom (some c) (ds.drop (i + 1))) := eq
          refine ite2 (fun e => ?_) (fun e => ?_)
          · have e : decide (c ≤ k) = true := e
            rw [show dCmdsFrom none ds = false by rw [eq, decide_eq_false (by have := of_decide_eq_true e; omega)]; rfl] at q
            exact q _ (sm.trans s4)
          · have e : ¬ decide (c ≤ k) = true := e
            walk_at "rds"
            refine ⟨aq, _, 0, _, rfl, rfl, haq.sq, atI_nat rfl, ?_⟩
            exact ⟨some c, some (.ref aq), rfl, sm.trans s4, by rw [eq, decide_eq_true (by rcases Int.lt_or_le k c with h | h; exact h; exact absurd (decide_eq_true h) e)]; rfl⟩
    · obtain ⟨b, y, rfl, sm, eq⟩ := hp
      walk_at "rds"
      rw [List.drop_of_length_le (by rw [hx.length]; exact Nat.le_refl _), dCmdsFrom_nil] at eq
      have q : ∀ H', Same H H' → Q (.bl (dCmdsFrom none ds)) H' := q
      rw [show dCmdsFrom none ds = true from eq] at q
      exact q _ sm
  · refine ⟨_, .ty _, _, _, false, rfl, .ty _, ty, kit_ty hk, ?_⟩
    walk_at "rds"
    rw [e] at q
    exact q H (Same.refl H)
end

/-! ### last numbers -/
/-- the dict of last numbers, by its pairs -/
def ndK (k : Int × Int) : Key × V := (Sum.inl k.1, V.int k.2)
def Nd (H : Hp) (p : Addr) (ks : List (Int × Int)) : Prop := H p = some (.dK (ks.map ndK))
def ndOpt (ks : List (Int × Int)) (c : Int) : Option Int := (ks.find? fun k => decide (k.1 = c)).map (·.2)
def ndGet (ks : List (Int × Int)) (c : Int) : Int := (ndOpt ks c).getD 0
def dNum : PyData → Int
  | .tuple [_, .int n, _] => n
  | _ => 0
theorem nd_val : ∀ (ks : List (Int × Int)) (c : Int), valV (ks.map ndK) (Sum.inl c : Key) = (ndOpt ks c).map V.int
  | [], _ => rfl
  | k :: r, c => by
    have ih := nd_val r c
    unfold valV ndOpt at ih ⊢
    rw [List.map_cons, List.find?_cons, List.find?_cons]
    by_cases h : k.1 = c
    · have h1 : decide ((ndK k).1 = (Sum.inl c : Key)) = true := decide_eq_true (by show (Sum.inl k.1 : Key) = Sum.inl c; rw [h])
      rw [h1, decide_eq_true h]; rfl
    · have h1 : decide ((ndK k).1 = (Sum.inl c : Key)) = false := decide_eq_false (fun z => h (Sum.inl.inj z))
      rw [h1, decide_eq_false h]; exact ih
def spLast : Sp := fun vs H Q _ => ∃ (p : Addr) (ks : List (Int × Int)) (c : Int), vs = [.ref p, .int c] ∧ Nd H p ks ∧ Q (.int (ndGet ks c)) H
def dFresh (ks : List (Int × Int)) (cs : List PyData) : Bool := cs.all fun d => decide (ndGet ks (dClient d) < dNum d)
def spFresh (K : PySem.W.Frag) : Sp := fun vs H Q _ => ∃ (p : Addr) (v : V) (ks : List (Int × Int)) (cs : List PyData), vs = [.ref p, v] ∧ Nd H p ks ∧ Dt K H none v (.tuple cs) ∧ (∀ d ∈ cs, dCmd d = true) ∧ Q (.bl (dFresh ks cs)) H
theorem Dt.nums {K : PySem.W.Frag} {H : Hp} {A : Option Addr} {x : V} {d : PyData} (h : dCmd d = true) (hx : Dt K H A x d) : ∃ a x3, x = .ref a ∧ TupAt K H a [.int (dClient d), .int (dNum d), x3] := by
  obtain ⟨c, n, t, rfl, _⟩ := dCmd_inv h
  obtain ⟨a, x1, x2, x3, rfl, ha, h1, h2, h3⟩ := hx.three
  cases h1; cases h2
  exact ⟨a, x3, rfl, ha⟩
def putN (ks : List (Int × Int)) (c n : Int) : List (Int × Int) := if (ks.any fun k => decide (k.1 = c)) = true then ks.map (fun k => if k.1 = c then (k.1, n) else k) else ks ++ [(c, n)]
theorem nd_put (ks : List (Int × Int)) (c n : Int) : putK (ks.map ndK) (Sum.inl c : Key) (V.int n) = (putN ks c n).map ndK := by
  have e : ∀ k : Int × Int, decide ((ndK k).1 = (Sum.inl c : Key)) = decide (k.1 = c) := fun k => decide_eq_decide.mpr ⟨fun z => Sum.inl.inj z, fun z => by show (Sum.inl k.1 : Key) = _; rw [z]⟩
  unfold putK putN
  rw [List.any_map]
  rw [show ((fun kv : Key × V => decide (kv.1 = (Sum.inl c : Key))) ∘ ndK) = fun k => decide (k.1 = c) from funext e]
  split
  · rw [List.map_map, List.map_map]
    refine List.map_congr_left fun k _ => ?_
    show (if (ndK k).1 = (Sum.inl c : Key) then ((ndK k).1, V.int n) else ndK k) = ndK (if k.1 = c then (k.1, n) else k)
    by_cases h : k.1 = c
    · rw [if_pos h, if_pos (by show (Sum.inl k.1 : Key) = _; rw [h])]; rfl
    · rw [if_neg h, if_neg (show ¬ (ndK k).1 = (Sum.inl c : Key) from fun z => h (Sum.inl.inj z))]
  · rw [List.map_append]; rfl
theorem putN_len (ks : List (Int × Int)) (c n : Int) : (putN ks c n).length ≤ ks.length + 1 := by
  unfold putN
  split
  · rw [List.length_map]; omega
  · rw [List.length_append]; exact Nat.le_refl _
def ndAfter (ks : List (Int × Int)) (cs : List PyData) : List (Int × Int) := cs.foldl (fun ks d => putN ks (dClient d) (dNum d)) ks
def spAfter (K : PySem.W.Frag) : Sp := fun vs H Q _ => ∃ (p : Addr) (v : V) (ks : List (Int × Int)) (cs : List PyData), vs = [.ref p, v] ∧ Nd H p ks ∧ Dt K H none v (.tuple cs) ∧ (∀ d ∈ cs, dCmd d = true) ∧ ks.length + cs.length ≤ 10000 ∧
  ∀ (r : Addr) (H' : Hp), H r = none → Same H H' → Nd H' r (ndAfter ks cs) → Q (.ref r) H'
section
variable {P : Program} {w : World} {K : PySem.W.Frag} {mg : Str → Option Value} {base : Heap}
theorem c_numbers_after (T : Txt K mg) : Cal P w K mg base 2 "numbers_after" (spAfter K) [] := by
  refine cal T.d_numbers_after sc_numbers_after (fun vs H Q E h => ?_) (fun f cdv A' outer s H vs Q E hr h => ?_)
  · obtain ⟨p, v, ks, cs, rfl, _⟩ := h; rfl
  obtain ⟨p, v, ks, cs, rfl, hp, hv, hc, hl, q⟩ := h
  refine ⟨_, (pss_cons (ps_set (i := 2) sc_numbers_after.nd rfl (Or.inl rfl) (pe_callTy call_dictD (by rfl) T.z_dict (by decide +kernel) (pa_cons (pv 0) pa_nil)))
      (pss_cons (ps_for PassesOwn.never rfl (pi_tup (pv 1)) (pg_tup (by rfl) (pgs_cons (pg_name (i := 3) sc_numbers_after.nd rfl (Or.inl rfl)) (pgs_cons (pg_name (i := 4) sc_numbers_after.nd rfl (Or.inl rfl)) (pgs_cons (pg_name (i := 5) sc_numbers_after.nd rfl (Or.inl rfl)) pgs_nil)))) (pss_one (ps_dput (hu_of hr) (pv 2) (pv 3) (pv 4) rfl)))
      (pss_one (ps_ret (pv 2))))), ?_⟩
  obtain ⟨b, xs, ds, rfl, e, hb, hx⟩ : ∃ b xs ds, v = .ref b ∧ PyData.tuple cs = .tuple ds ∧ TupAt K H b xs ∧ DtAll K H none xs ds := by
    cases hv with
    | tup hb hx => exact ⟨_, _, _, rfl, rfl, hb, hx⟩
  cases e
  walk_at "rds"
  refine ⟨p, _, rfl, .inl hp, fun r hr => ?_⟩
  walk_at "rds"
  refine ⟨⟨xs, (hb.same (same_upd hr)).sq⟩, ?_⟩
  refine for_it (walk_tup (K := K) (a := b) (xs := xs)) (Pv := fun i σ H' => ∃ y2 y3 y4, σ = [some (.ref p), some (.ref b), some (.ref r), y2, y3, y4] ∧ Same H H' ∧ ∃ ks', Nd H' r ks' ∧ ndAfter ks cs = ndAfter ks' (cs.drop i) ∧ ks'.length ≤ ks.length + i) ⟨none, none, none, rfl, same_upd hr, ks, upd_same, rfl, Nat.le_refl _⟩ (fun i σ H' _ h => by obtain ⟨_, _, _, _, sm, _⟩ := h; exact (hb.same sm).sq) (fun i x σ H2 H3 hi hy' hy => ?_) (fun σ H2 hy' => ?_)
  · obtain ⟨y2, y3, y4, rfl, sm, ks', hk, eq, hkl⟩ := hy'
    obtain ⟨rfl, gx⟩ := hy
    obtain ⟨d, gd, hdx⟩ := hx.get gx
    have ec := hc d (List.mem_of_getElem? gd)
    have hid : i < cs.length := (List.getElem?_eq_some_iff.mp gd).1
    have edrop : cs.drop i = d :: cs.drop (i + 1) := by
      rw [List.drop_eq_getElem_cons hid]
      rw [List.getElem?_eq_getElem hid] at gd
      cases gd; rfl
    rw [edrop] at eq
    obtain ⟨aq, x3, rfl, haq⟩ := Dt.nums ec (hdx.on sm)
    refine ⟨aq, _, rfl, haq.sq, rfl, _, _, rfl, _, _, rfl, _, _, rfl, rfl, ?_⟩
    walk_at "rds"
    refine ⟨r, _, rfl, DPut.k (k := Sum.inl (dClient d)) hk (by rw [List.length_map]; exact sz1000' (by omega)), ?_⟩
    refine ⟨_, _, _, rfl, same_mut sm hr, putN ks' (dClient d) (dNum d), ?_, eq, by have := putN_len ks' (dClient d) (dNum d); omega⟩
    show upd _ r _ r = _
    rw [upd_same, nd_put]
  · obtain ⟨y2, y3, y4, rfl, sm, ks', hk, eq, hkl⟩ := hy'
    walk_at "rds"
    rw [List.drop_of_length_le (by rw [hx.length]; exact Nat.le_refl _)] at eq
    refine q _ _ hr sm ?_
    rw [eq]
    exact hk
end

section
variable {P : Program} {w : World} {K : PySem.W.Frag} {mg : Str → Option Value} {base : Heap}
theorem c_last_number (T : Txt K mg) : Cal P w K mg base 1 "last_number" spLast [] := by
  refine cal T.d_last_number sc_last_number (fun vs H Q E h => ?_) (fun f cdv A' outer s H vs Q E hr h => ?_)
  · obtain ⟨p, ks, c, rfl, _⟩ := h; rfl
  obtain ⟨p, ks, c, rfl, hp, q⟩ := h
  refine ⟨_, (pss_one (ps_ret (pe_dget2 (hu1 hr) (pv 0) (pv 1) pe_int ⟨by rfl, by rfl, by rfl, by rfl⟩))), ?_⟩
  walk_at "rds"
  refine ⟨.inl ⟨_, .inl hp⟩, ?_⟩
  walk_at "rds"
  refine ⟨_, DGet.k (k := Sum.inl c) hp, ?_⟩
  rw [nd_val]
  have e : ((ndOpt ks c).map V.int).getD (.int 0) = .int (ndGet ks c) := by
    unfold ndGet
    cases ndOpt ks c <;> rfl
  rw [e]
  exact q
theorem c_all_fresh (T : Txt K mg) : Cal P w K mg base 2 "all_fresh" (spFresh K) [] := by
  have c_last_number := c_last_number (P := P) (w := w) (base := base) T
  refine cal T.d_all_fresh sc_all_fresh (fun vs H Q E h => ?_) (fun f cdv A' outer s H vs Q E hr h => ?_)
  · obtain ⟨p, v, ks, cs, rfl, _⟩ := h; rfl
  obtain ⟨p, v, ks, cs, rfl, hp, hv, hc, q⟩ := h
  refine ⟨_, (pss_cons (ps_for PassesOwn.never rfl (pi_tup (pv 1)) (pg_tup (by rfl) (pgs_cons (pg_name (i := 2) sc_all_fresh.nd rfl (Or.inl rfl)) (pgs_cons (pg_name (i := 3) sc_all_fresh.nd rfl (Or.inl rfl)) (pgs_cons (pg_name (i := 4) sc_all_fresh.nd rfl (Or.inl rfl)) pgs_nil)))) (pss_one (ps_if (pt_cmpR op_le (pv 3) (pe_c c_last_number hr (by decide) (by rfl) (pa_cons (pv 0) (pa_cons (pv 2) pa_nil))) (nomark _)) (pss_one (ps_ret pe_bl)) pss_nil)))
      (pss_one (ps_ret pe_bl))), ?_⟩
  obtain ⟨b, xs, ds, rfl, e, hb, hx⟩ : ∃ b xs ds, v = .ref b ∧ PyData.tuple cs = .tuple ds ∧ TupAt K H b xs ∧ DtAll K H none xs ds := by
    cases hv with
    | tup hb hx => exact ⟨_, _, _, rfl, rfl, hb, hx⟩
  cases e
  walk_at "rds"
  refine ⟨⟨xs, hb.sq⟩, ?_⟩
  refine for_it (walk_tup (K := K) (a := b) (xs := xs)) (Pv := fun i σ H' => ∃ y2 y3 y4, σ = [some (.ref p), some (.ref b), y2, y3, y4] ∧ H' = H ∧ dFresh ks cs = dFresh ks (cs.drop i)) ⟨none, none, none, rfl, rfl, rfl⟩ (fun i σ H' _ h => by obtain ⟨_, _, _, _, rfl, _⟩ := h; exact hb.sq) (fun i x σ H2 H3 hi hy' hy => ?_) (fun σ H2 hy' => ?_)
  · obtain ⟨y2, y3, y4, rfl, rfl, eq⟩ := hy'
    obtain ⟨rfl, gx⟩ := hy
    obtain ⟨d, gd, hdx⟩ := hx.get gx
    have ec := hc d (List.mem_of_getElem? gd)
    have hid : i < cs.length := (List.getElem?_eq_some_iff.mp gd).1
    have edrop : cs.drop i = d :: cs.drop (i + 1) := by
      rw [List.drop_eq_getElem_cons hid]
      rw [List.getElem?_eq_getElem hid] at gd
      cases gd; rfl
    rw [edrop] at eq
    have eq : dFresh ks cs = (decide (ndGet ks (dClient d) < dNum d) && dFresh ks (cs.drop (i + 1))) := eq
    obtain ⟨aq, x3, rfl, haq⟩ := Dt.nums ec hdx
    refine ⟨aq, _, rfl, haq.sq, rfl, _, _, rfl, _, _, rfl, _, _, rfl, rfl, ?_⟩
    walk_at "rds"
    refine ⟨p, ks, _, rfl, hp, ?_⟩
    walk_at "rds"
    refine ite2 (fun e => ?_) (fun e => ?_)
    · have e : dNum d ≤ ndGet ks (dClient d) := of_decide_eq_true e
      rw [eq, decide_eq_false (by omega)] at q
      exact q
    · have e : ¬ dNum d ≤ ndGet ks (dClient d) := fun z => e (decide_eq_true z)
      exact ⟨_, _, _, rfl, rfl, by rw [eq, decide_eq_true (by omega), Bool.true_and]⟩
  · obtain ⟨y2, y3, y4, rfl, rfl, eq⟩ := hy'
    walk_at "rds"
    rw [List.drop_of_length_le (by rw [hx.length]; exact Nat.le_refl _)] at eq
    rw [eq] at q
    exact q
end

/-! ### the law's commands -/
def spCommand (K : PySem.W.Frag) : Sp := fun vs H Q _ => ∃ (D A : Addr) (c : Int), vs = [.ref D, .ref A, .int c] ∧ Dr H D A ∧ -100 ≤ c ∧ c ≤ -1 ∧
  ∀ (H' : Hp) (x : V) (d : PyData), Mod A H H' → Dr H' D A → Dt K H' A x d → dCmd d = true → dClient d = c → Q x H'
def spCommands (K : PySem.W.Frag) : Sp := fun vs H Q _ => ∃ (D A : Addr) (m : Int), vs = [.ref D, .ref A, .int m] ∧ Dr H D A ∧ 0 ≤ m ∧ m ≤ 50 ∧
  ∀ (H' : Hp) (x : V) (cs : List PyData), Mod A H H' → Dr H' D A → Dt K H' A x (.tuple cs) → dCmdsFrom none cs = true → cs.length ≤ 100 → Q x H'
def spTruth : Sp := fun vs H Q _ => ∃ (a b : Bool), vs = [.bl a, .bl b] ∧ Q (.bl (decide (V.bl a = V.bl b))) H
theorem Mod.put {A l : Addr} {o : HO} {H H' : Hp} (s : Mod A H H') (h : H l = none) : Mod A H (upd H' l o) := fun b u n e => by
  rw [upd_ne (ne_of_none e h)]
  exact s b u n e
section
variable {P : Program} {w : World} {K : PySem.W.Frag} {mg : Str → Option Value} {base : Heap}
theorem c__law_truth (T : Txt K mg) : Cal P w K mg base 1 "_law_truth" spTruth [] := by
  refine cal T.d__law_truth sc__law_truth (fun vs H Q E h => ?_) (fun f cdv A' outer s H vs Q E hr h => ?_)
  · obtain ⟨a, b, rfl, _⟩ := h; rfl
  obtain ⟨a, b, rfl, q⟩ := h
  refine ⟨_, (pss_one (ps_ret (pe_and (pe_callB (kisi (K := K)) (by rfl) T.z_isinstance (by decide +kernel) (pa_cons (pv 0) (pa_cons (pe_bltn (v := .ty "bool") (by rfl) T.z_bool (by decide +kernel) rfl) pa_nil))) (pe_one (pe_cmpR op_eq (pv 0) (pv 1) (nomark _)))))), ?_⟩
  walk_at "rds"
  walk_at "isi"
  walk_at "rds"
  exact q
theorem c__law_command (T : Txt K mg) : Cal P w K mg base 3 "_law_command" (spCommand K) [] := by
  have c__law_next := c__law_next (P := P) (w := w) (base := base) T
  have c__law_big := c__law_big (P := P) (w := w) (base := base) T
  have c__law_string := c__law_string (P := P) (w := w) (base := base) T
  refine cal T.d__law_command sc__law_command (fun vs H Q E h => ?_) (fun f cdv A' outer s H vs Q E hr h => ?_)
  · obtain ⟨D, A, c, rfl, _⟩ := h; rfl
  obtain ⟨D, A, c, rfl, dr, hc0, hc1, q⟩ := h
  refine ⟨_, (pss_cons (ps_set (i := 3) sc__law_command.nd rfl (Or.inl rfl) (pe_op op_add pe_int (pe_c c__law_next hr (by decide) (by rfl) (pa_cons (pv 0) (pa_cons (pv 1) (pa_cons pe_int pa_nil))))))
      (pss_cut (ps_if (pt_cmpR op_eq (pe_c c__law_next hr (by decide) (by rfl) (pa_cons (pv 0) (pa_cons (pv 1) (pa_cons pe_int pa_nil)))) pe_int (nomark _)) (pss_one (ps_set (i := 3) sc__law_command.nd rfl (Or.inl rfl) (pe_op op_add pe_int (pe_c c__law_big hr (by decide) (by rfl) (pa_cons (pv 0) (pa_cons (pv 1) (pa_cons (pe_op op_pow pe_int pe_int) pa_nil))))))) pss_nil)
      (pss_one (ps_ret (pe_tup (pa_cons (pv 2) (pa_cons (pv 3) (pa_cons (pe_c c__law_string hr (by decide) (by rfl) (pa_cons (pv 0) (pa_cons (pv 1) (pa_cons pe_int pa_nil)))) pa_nil)))))))), ?_⟩
  walk_at "rds"
  refine ⟨D, A, 5, rfl, dr, by decide, fun H1 n1 n10 n11 md1 dr1 => ?_⟩
  walk_at "rds"
  refine ⟨fun σ' H' => ∃ n : Int, σ' = [some (.ref D), some (.ref A), some (.int c), some (.int n)] ∧ 1 ≤ n ∧ n ≤ 1000000000000 ∧ Mod A H H' ∧ Dr H' D A, ?_, ?_⟩
  · walk_at "rds"
    refine ⟨D, A, 6, rfl, dr1, by decide, fun H2 s2 s20 s21 md2 dr2 => ?_⟩
    walk_at "rds"
    refine ite2 (fun _ => ?_) (fun _ => ?_)
    · walk_at "rds"
      refine ⟨D, A, 1000000000000, rfl, dr2, by decide, fun H3 s3 s30 s31 md3 dr3 => ?_⟩
      walk_at "rds"
      exact ⟨_, rfl, by omega, by omega, (md1.trans md2).trans md3, dr3⟩
    · exact ⟨_, rfl, by omega, by omega, md1.trans md2, dr2⟩
  rintro σ' H2 ⟨n, rfl, hn0, hn1, md2, dr2⟩
  walk_at "rds"
  refine ⟨D, A, 240, rfl, dr2, by decide, by decide, fun H3 z hz pz md3 dr3 => ?_⟩
  walk_at "rds"
  intro p hp
  have e : dCmd (.tuple [.int c, .int n, .str z]) = true := by
    show (decide (-100 ≤ c ∧ c ≤ -1) && decide (1 ≤ n ∧ n ≤ 1000000000000) && (isPr z && decide ((z.length : Int) ≤ 240))) = true
    rw [decide_eq_true ⟨hc0, hc1⟩, decide_eq_true ⟨hn0, hn1⟩, pz, decide_eq_true hz]; rfl
  exact q _ _ (.tuple [.int c, .int n, .str z]) ((md2.trans md3).new hp) (dr3.new hp) (.tup (.inl upd_same) (.cons (.int _) (.cons (.int _) (.cons (.str _ (by omega)) .nil)))) e rfl
theorem c__law_commands (T : Txt K mg) : Cal P w K mg base 4 "_law_commands" (spCommands K) [] := by
  have c__law_next := c__law_next (P := P) (w := w) (base := base) T
  have c__law_command := c__law_command (P := P) (w := w) (base := base) T
  refine cal T.d__law_commands sc__law_commands (fun vs H Q E h => ?_) (fun f cdv A' outer s H vs Q E hr h => ?_)
  · obtain ⟨D, A, m, rfl, _⟩ := h; rfl
  obtain ⟨D, A, m, rfl, dr, hm0, hm1, q⟩ := h
  refine ⟨_, (pss_cons (ps_set (i := 3) sc__law_commands.nd rfl (Or.inl rfl) (pe_lst pa_nil))
      (pss_cons (ps_set (i := 4) sc__law_commands.nd rfl (Or.inl rfl) (pe_op op_add (pe_un un_neg pe_int) (pe_c c__law_next hr (by decide) (by rfl) (pa_cons (pv 0) (pa_cons (pv 1) (pa_cons pe_int pa_nil))))))
      (pss_cons (ps_for PassesOwn.never rfl (pi_range1 (by rfl) T.z_range (pa_cons (pe_c c__law_next hr (by decide) (by rfl) (pa_cons (pv 0) (pa_cons (pv 1) (pa_cons (pe_op op_add (pv 2) pe_int) pa_nil)))) pa_nil)) (pg_name (i := 5) sc__law_commands.nd rfl (Or.inl rfl)) (pss_cons (ps_if (pt_cmpR op_lt (pv 4) pe_int (nomark _)) (pss_one (ps_expr (pe_bm PySem.F.plainAttrs_list PySem.F.slot_list_append PySem.F.type_list_append mt_append (pv 3) (pa_cons (pe_c c__law_command hr (by decide) (by rfl) (pa_cons (pv 0) (pa_cons (pv 1) (pa_cons (pv 4) pa_nil)))) pa_nil)))) pss_nil)
      (pss_one (ps_set (i := 4) sc__law_commands.nd rfl (Or.inl rfl) (pe_op op_add (pe_op op_add (pv 4) pe_int) (pe_c c__law_next hr (by decide) (by rfl) (pa_cons (pv 0) (pa_cons (pv 1) (pa_cons pe_int pa_nil)))))))))
      (pss_one (ps_ret (pe_callTy call_tuple_of (by rfl) T.z_tuple (by decide +kernel) (pa_cons (pv 3) pa_nil))))))), ?_⟩
  refine ⟨by decide, fun l hl => ?_⟩
  have lA := dr.freshA hl
  have lD := dr.freshD hl
  walk_at "rds"
  refine ⟨D, A, 100, rfl, dr.new hl, by decide, fun H1 c1 c10 c11 md1 dr1 => ?_⟩
  walk_at "rds"
  refine ⟨D, A, _, rfl, dr1, by omega, fun H2 n n0 n1 md2 dr2 => ?_⟩
  obtain ⟨n, rfl⟩ := Int.eq_ofNat_of_zero_le n0
  walk_at "rds"
  refine for_it walk_range (Pv := fun i σ H' => ∃ (xs : List V) (ds : List PyData) (c : Int) (y : Option V), σ = [some (.ref D), some (.ref A), some (.int m), some (.ref l), some (.int c), y] ∧ H' l = some (.lst xs) ∧ DtAll K H' A xs ds ∧ dCmdsFrom none ds = true ∧ (∀ k, lastC none ds = some k → k < c) ∧ -100 ≤ c ∧ ds.length ≤ i ∧ Mod A H H' ∧ Dr H' D A)
    ⟨[], [], _, none, rfl, md2 _ _ lA (md1 _ _ lA upd_same), .nil, rfl, (fun _ z => nomatch z), by omega, by simp, ((Mod.refl.put hl).trans md1).trans md2, dr2⟩ (fun _ _ _ _ _ => trivial) (fun i x σ H3 H4 hi hp hy => ?_) (fun σ H3 hp => ?_)
  · obtain ⟨xs, ds, c, y, rfl, hl3, hx, hc, hk, hc0, hlen, md, dr⟩ := hp
    obtain ⟨rfl, rfl⟩ := hy
    have hi' : i < n := by omega
    walk_at "rds"
    refine ite2 (fun e => ?_) (fun e => ?_)
    · have e : c < 0 := of_decide_eq_true e
      walk_at "rds"
      refine ⟨.inl ⟨rfl, _, sq hl3⟩, ?_⟩
      walk_at "rds"
      refine ⟨D, A, c, rfl, dr, hc0, by omega, fun H5 x d md5 dr5 hd e1 e2 => ?_⟩
      have hl5 := md5 _ _ lA hl3
      refine ⟨l, xs, _, rfl, rfl, hl5, by rw [hx.length]; exact sz1000' (by omega), ?_⟩
      walk_at "rds"
      refine ⟨D, A, 20, rfl, dr5.put lD lA, by decide, fun H6 r r0 r1 md6 dr6 => ?_⟩
      walk_at "rds"
      have t5 := md5.tp dr
      have tp := tp_put (ys := xs ++ [x]) hl5
      have t6 := md6.tp (dr5.put (o := .lst (xs ++ [x])) lD lA)
      have all : dCmdsFrom none (ds ++ [d]) = true := by
        rw [dCmdsFrom_snoc, hc, e1]
        cases ek : lastC none ds with
        | none => rfl
        | some k => exact decide_eq_true (by rw [e2]; exact hk k ek)
      have hx1 := DtAll.keep (B := some A) t5 _ _ (dCmdsFrom_noL hc) hx
      have hx2 := DtAll.keep (B := some A) tp _ _ (dCmdsFrom_noL all) (hx1.snoc hd)
      refine ⟨xs ++ [x], ds ++ [d], _, _, rfl, md6 _ _ lA upd_same, DtAll.keep (B := some A) t6 _ _ (dCmdsFrom_noL all) hx2, all, fun k z => ?_, by omega, by rw [List.length_append, List.length_singleton]; omega, ((md.trans md5).put hl).trans md6, dr6⟩
      rw [lastC_snoc] at z
      cases z
      rw [e2]; omega
    · have e : ¬ c < 0 := fun z => e (decide_eq_true z)
      walk_at "rds"
      refine ⟨D, A, 20, rfl, dr, by decide, fun H6 r r0 r1 md6 dr6 => ?_⟩
      walk_at "rds"
      refine ⟨xs, ds, _, _, rfl, md6 _ _ lA hl3, DtAll.keep (B := some A) (md6.tp dr) _ _ (dCmdsFrom_noL hc) hx, hc, fun k z => ?_, by omega, by omega, md.trans md6, dr6⟩
      have := hk k z
      omega
  · obtain ⟨xs, ds, c, y, rfl, hl3, hx, hc, hk, hc0, hlen, md, dr⟩ := hp
    walk_at "rds"
    refine ⟨l, xs, rfl, .inl ⟨sq hl3, fun t ht => ?_⟩⟩
    exact q _ _ ds (md.new ht) (dr.new ht) (.tup (.inl upd_same) (hx.on (same_upd ht))) hc (by omega)
end


/-! ### the law's spoilt commands -/
def spSpoilt (K : PySem.W.Frag) : Sp := fun vs H Q _ => ∃ (v : V) (D A : Addr) (d : PyData), vs = [v, .ref D, .ref A] ∧ Dr H D A ∧ Dt K H A v d ∧ dCmd d = true ∧
  ∀ (H' : Hp) (x : V) (e : PyData), Mod A H H' → Dr H' D A → Dt K H' A x e → dCmd e = false → Q x H'
section
variable {P : Program} {w : World} {K : PySem.W.Frag} {mg : Str → Option Value} {base : Heap}
theorem c__law_spoilt (T : Txt K mg) : Cal P w K mg base 2 "_law_spoilt" (spSpoilt K) [] := by
  have c__law_next := c__law_next (P := P) (w := w) (base := base) T
  refine cal T.d__law_spoilt sc__law_spoilt (fun vs H Q E h => ?_) (fun f cdv A' outer s H vs Q E hr h => ?_)
  · obtain ⟨v, D, A, d, rfl, _⟩ := h; rfl
  obtain ⟨v, D, A, d, rfl, dr, hd, hc, q⟩ := h
  refine ⟨_, (pss_cons (ps_set (i := 3) sc__law_spoilt.nd rfl (Or.inl rfl) (pe_c c__law_next hr (by decide) (by rfl) (pa_cons (pv 1) (pa_cons (pv 2) (pa_cons pe_int pa_nil)))))
      (pss_cons (ps_set (i := 4) sc__law_spoilt.nd rfl (Or.inl rfl) (pe_lst (pa_cons (pe_tup (pa_cons pe_int (pa_cons (pe_ix (kixt (K := K)) (pv 0) pe_int (fun _ _ => rfl)) (pa_cons (pe_ix (kixt (K := K)) (pv 0) pe_int (fun _ _ => rfl)) pa_nil)))) (pa_cons (pe_tup (pa_cons (pe_un un_neg pe_int) (pa_cons (pe_ix (kixt (K := K)) (pv 0) pe_int (fun _ _ => rfl)) (pa_cons (pe_ix (kixt (K := K)) (pv 0) pe_int (fun _ _ => rfl)) pa_nil)))) (pa_cons (pe_tup (pa_cons (pe_ix (kixt (K := K)) (pv 0) pe_int (fun _ _ => rfl)) (pa_cons pe_int (pa_cons (pe_ix (kixt (K := K)) (pv 0) pe_int (fun _ _ => rfl)) pa_nil)))) pa_nil)))))
      (pss_cons (ps_set (i := 4) sc__law_spoilt.nd rfl (Or.inl rfl) (pe_op op_cat (pv 4) (pe_lst (pa_cons (pe_tup (pa_cons (pe_ix (kixt (K := K)) (pv 0) pe_int (fun _ _ => rfl)) (pa_cons (pe_op op_add (pe_op op_pow pe_int pe_int) pe_int) (pa_cons (pe_ix (kixt (K := K)) (pv 0) pe_int (fun _ _ => rfl)) pa_nil)))) (pa_cons (pe_tup (pa_cons (pe_ix (kixt (K := K)) (pv 0) pe_int (fun _ _ => rfl)) (pa_cons (pe_ix (kixt (K := K)) (pv 0) pe_int (fun _ _ => rfl)) (pa_cons (pe_op op_add_str (pe_ix (kixt (K := K)) (pv 0) pe_int (fun _ _ => rfl)) pe_str) pa_nil)))) pa_nil)))))
      (pss_cons (ps_set (i := 4) sc__law_spoilt.nd rfl (Or.inl rfl) (pe_op op_cat (pv 4) (pe_lst (pa_cons (pe_tup (pa_cons (pe_ix (kixt (K := K)) (pv 0) pe_int (fun _ _ => rfl)) (pa_cons (pe_ix (kixt (K := K)) (pv 0) pe_int (fun _ _ => rfl)) (pa_cons (pe_op op_add_str (pe_ix (kixt (K := K)) (pv 0) pe_int (fun _ _ => rfl)) (pe_op op_mul_str pe_str pe_int)) pa_nil)))) (pa_cons (pe_lst (pa_cons (pe_ix (kixt (K := K)) (pv 0) pe_int (fun _ _ => rfl)) (pa_cons (pe_ix (kixt (K := K)) (pv 0) pe_int (fun _ _ => rfl)) (pa_cons (pe_ix (kixt (K := K)) (pv 0) pe_int (fun _ _ => rfl)) pa_nil)))) pa_nil)))))
      (pss_cons (ps_set (i := 4) sc__law_spoilt.nd rfl (Or.inl rfl) (pe_op op_cat (pv 4) (pe_lst (pa_cons (pe_op op_catT (pv 0) (pe_tup (pa_cons pe_str pa_nil))) (pa_cons (pe_tup (pa_cons (pe_ix (kixt (K := K)) (pv 0) pe_int (fun _ _ => rfl)) (pa_cons pe_bl (pa_cons (pe_ix (kixt (K := K)) (pv 0) pe_int (fun _ _ => rfl)) pa_nil)))) (pa_cons (pe_tup (pa_cons (pe_ix (kixt (K := K)) (pv 0) pe_int (fun _ _ => rfl)) (pa_cons (pe_ix (kixt (K := K)) (pv 0) pe_int (fun _ _ => rfl)) pa_nil))) pa_nil))))))
      (pss_one (ps_ret (pe_ix (kixl (K := K)) (pv 4) (pv 3) (fun _ _ => rfl))))))))), ?_⟩
  obtain ⟨c, n, t, rfl, c0, c1, n0, n1, tp, tl⟩ := dCmd_inv hc
  have htl : t.length ≤ 1000000 := by omega
  obtain ⟨a, x1, x2, x3, rfl, ha, h1, h2, h3⟩ := id hd.three
  cases h1; cases h2; cases h3
  walk_at "rds"
  refine ⟨D, A, 10, rfl, dr, by decide, fun H1 r r0 r1 md1 drc => ?_⟩
  have ha := ha.tp (md1.tp dr)
  have sm := Same.refl H1
  have acc : DtAll K H1 (some A) [] [] := .nil
  have lnl : (Str.ofString "\n").length = 1 := by decide
  have lma : (PySem.Txt.mul (Str.ofString "a") 241).length = 241 := by
    show (PySem.Txt.mul (Str.ofString "a") ((241 : Nat) : Int)).cps.size = 241
    rw [mul_a]; simp

  walk_at "rds"
  refine ⟨a, _, 1, _, rfl, rfl, (ha.same sm).sq, atI_nat rfl, ?_⟩
  walk_at "rds"
  refine ⟨a, _, 2, _, rfl, rfl, (ha.same sm).sq, atI_nat rfl, ?_⟩
  walk_at "rds"
  intro p0 hp0
  have s1 := same_upd (o := .tup [.int 0, .int n, .str t]) hp0
  have fAp0 := drc.freshA hp0
  have drc := drc.same s1
  have sm := sm.trans s1
  have acc := (acc.on s1).snoc (d := .tuple [.int 0, .int n, .str t]) (.tup (.inl upd_same) (.cons (.int _) (.cons (.int _) (.cons (.str _ htl) .nil))))
  generalize upd H1 p0 (.tup [.int 0, .int n, .str t]) = G1 at drc sm acc 
  clear s1
  walk_at "rds"
  refine ⟨a, _, 1, _, rfl, rfl, (ha.same sm).sq, atI_nat rfl, ?_⟩
  walk_at "rds"
  refine ⟨a, _, 2, _, rfl, rfl, (ha.same sm).sq, atI_nat rfl, ?_⟩
  walk_at "rds"
  intro p1 hp1
  have s1 := same_upd (o := .tup [.int (-101), .int n, .str t]) hp1
  have fAp1 := drc.freshA hp1
  have drc := drc.same s1
  have sm := sm.trans s1
  have acc := (acc.on s1).snoc (d := .tuple [.int (-101), .int n, .str t]) (.tup (.inl upd_same) (.cons (.int _) (.cons (.int _) (.cons (.str _ htl) .nil))))
  generalize upd G1 p1 (.tup [.int (-101), .int n, .str t]) = G2 at drc sm acc 
  clear s1
  walk_at "rds"
  refine ⟨a, _, 0, _, rfl, rfl, (ha.same sm).sq, atI_nat rfl, ?_⟩
  walk_at "rds"
  refine ⟨a, _, 2, _, rfl, rfl, (ha.same sm).sq, atI_nat rfl, ?_⟩
  walk_at "rds"
  intro p2 hp2
  have s1 := same_upd (o := .tup [.int c, .int 0, .str t]) hp2
  have fAp2 := drc.freshA hp2
  have drc := drc.same s1
  have sm := sm.trans s1
  have acc := (acc.on s1).snoc (d := .tuple [.int c, .int 0, .str t]) (.tup (.inl upd_same) (.cons (.int _) (.cons (.int _) (.cons (.str _ htl) .nil))))
  generalize upd G2 p2 (.tup [.int c, .int 0, .str t]) = G3 at drc sm acc 
  clear s1
  walk_at "rds"
  intro l0 hl0
  have s1 := same_upd (o := .lst [.ref p0, .ref p1, .ref p2]) hl0
  have fAl0 := drc.freshA hl0
  have drc := drc.same s1
  have sm := sm.trans s1
  have acc := acc.on s1
  have hl0 : upd G3 l0 (.lst [.ref p0, .ref p1, .ref p2]) l0 = some (.lst [.ref p0, .ref p1, .ref p2]) := upd_same
  generalize upd G3 l0 (.lst [.ref p0, .ref p1, .ref p2]) = G4 at drc sm acc hl0
  clear s1
  walk_at "rds"
  refine ⟨a, _, 0, _, rfl, rfl, (ha.same sm).sq, atI_nat rfl, ?_⟩
  walk_at "rds"
  refine ⟨a, _, 2, _, rfl, rfl, (ha.same sm).sq, atI_nat rfl, ?_⟩
  walk_at "rds"
  intro p3 hp3
  have s1 := same_upd (o := .tup [.int c, .int (10 ^ Int.toNat 12 + 1), .str t]) hp3
  have fAp3 := drc.freshA hp3
  have drc := drc.same s1
  have sm := sm.trans s1
  have acc := (acc.on s1).snoc (d := .tuple [.int c, .int (10 ^ Int.toNat 12 + 1), .str t]) (.tup (.inl upd_same) (.cons (.int _) (.cons (.int _) (.cons (.str _ htl) .nil))))
  have hl0 := s1 _ _ hl0
  generalize upd G4 p3 (.tup [.int c, .int (10 ^ Int.toNat 12 + 1), .str t]) = G5 at drc sm acc hl0
  clear s1
  have htn : (t ++ Str.ofString "\n").length ≤ 1000000 := by rw [Str.length_append, lnl]; omega
  have hta : (t ++ PySem.Txt.mul (Str.ofString "a") 241).length ≤ 1000000 := by rw [Str.length_append, lma]; omega
  walk_at "rds"
  refine ⟨a, _, 0, _, rfl, rfl, (ha.same sm).sq, atI_nat rfl, ?_⟩
  walk_at "rds"
  refine ⟨a, _, 1, _, rfl, rfl, (ha.same sm).sq, atI_nat rfl, ?_⟩
  walk_at "rds"
  refine ⟨a, _, 2, _, rfl, rfl, (ha.same sm).sq, atI_nat rfl, ?_⟩
  have hsz : t.length + (Str.ofString "\n").length ≤ sizeLine := sz1000 (by rw [lnl]; omega)
  refine ⟨t, Str.ofString "\n", rfl, rfl, hsz, ?_⟩
  walk_at "rds"
  intro p4 hp4
  have s1 := same_upd (o := .tup [.int c, .int n, .str (t ++ Str.ofString "\n")]) hp4
  have fAp4 := drc.freshA hp4
  have drc := drc.same s1
  have sm := sm.trans s1
  have acc := (acc.on s1).snoc (d := .tuple [.int c, .int n, .str (t ++ Str.ofString "\n")]) (.tup (.inl upd_same) (.cons (.int _) (.cons (.int _) (.cons (.str _ htn) .nil))))
  have hl0 := s1 _ _ hl0
  generalize upd G5 p4 (.tup [.int c, .int n, .str (t ++ Str.ofString "\n")]) = G6 at drc sm acc hl0
  clear s1
  walk_at "rds"
  intro l1 hl1
  have s1 := same_upd (o := .lst [.ref p3, .ref p4]) hl1
  have fAl1 := drc.freshA hl1
  have drc := drc.same s1
  have sm := sm.trans s1
  have acc := acc.on s1
  have hl0 := s1 _ _ hl0
  have hl1 : upd G6 l1 (.lst [.ref p3, .ref p4]) l1 = some (.lst [.ref p3, .ref p4]) := upd_same
  generalize upd G6 l1 (.lst [.ref p3, .ref p4]) = G7 at drc sm acc hl0 hl1
  clear s1
  walk_at "rds"
  refine ⟨l0, l1, _, _, rfl, rfl, hl0, hl1, sz1000 (Nat.le_of_ble_eq_true rfl), ?_⟩
  walk_at "rds"
  intro w1 hw1
  have s1 := same_upd (o := .lst ([.ref p0, .ref p1, .ref p2] ++ [.ref p3, .ref p4])) hw1
  have fAw1 := drc.freshA hw1
  have drc := drc.same s1
  have sm := sm.trans s1
  have acc := acc.on s1
  have hl0 := s1 _ _ hl0
  have hl1 := s1 _ _ hl1
  have hw1 : upd G7 w1 (.lst ([.ref p0, .ref p1, .ref p2] ++ [.ref p3, .ref p4])) w1 = some (.lst ([.ref p0, .ref p1, .ref p2] ++ [.ref p3, .ref p4])) := upd_same
  generalize upd G7 w1 (.lst ([.ref p0, .ref p1, .ref p2] ++ [.ref p3, .ref p4])) = G8 at drc sm acc hl0 hl1 hw1
  clear s1
  walk_at "rds"
  refine ⟨a, _, 0, _, rfl, rfl, (ha.same sm).sq, atI_nat rfl, ?_⟩
  walk_at "rds"
  refine ⟨a, _, 1, _, rfl, rfl, (ha.same sm).sq, atI_nat rfl, ?_⟩
  walk_at "rds"
  refine ⟨a, _, 2, _, rfl, rfl, (ha.same sm).sq, atI_nat rfl, ?_⟩
  have hmu : PySem.MulOk (Str.ofString "a") (241 : Int) := mulOk_a (n := 241) (by decide)
  have hsz : t.length + (PySem.Txt.mul (Str.ofString "a") 241).length ≤ sizeLine := sz1000 (by rw [lma]; omega)
  refine ⟨Str.ofString "a", 241, rfl, rfl, hmu, ?_⟩
  refine ⟨t, PySem.Txt.mul (Str.ofString "a") 241, rfl, rfl, hsz, ?_⟩
  generalize PySem.Txt.mul (Str.ofString "a") 241 = ua at lma hsz hta
  walk_at "rds"
  intro p5 hp5
  have s1 := same_upd (o := .tup [.int c, .int n, .str (t ++ ua)]) hp5
  have fAp5 := drc.freshA hp5
  have drc := drc.same s1
  have sm := sm.trans s1
  have acc := (acc.on s1).snoc (d := .tuple [.int c, .int n, .str (t ++ ua)]) (.tup (.inl upd_same) (.cons (.int _) (.cons (.int _) (.cons (.str _ hta) .nil))))
  have hl0 := s1 _ _ hl0
  have hl1 := s1 _ _ hl1
  have hw1 := s1 _ _ hw1
  generalize upd G8 p5 (.tup [.int c, .int n, .str (t ++ ua)]) = G9 at drc sm acc hl0 hl1 hw1
  clear s1
  walk_at "rds"
  refine ⟨a, _, 0, _, rfl, rfl, (ha.same sm).sq, atI_nat rfl, ?_⟩
  walk_at "rds"
  refine ⟨a, _, 1, _, rfl, rfl, (ha.same sm).sq, atI_nat rfl, ?_⟩
  walk_at "rds"
  refine ⟨a, _, 2, _, rfl, rfl, (ha.same sm).sq, atI_nat rfl, ?_⟩
  walk_at "rds"
  intro p6 hp6
  have s1 := same_upd (o := .lst [.int c, .int n, .str t]) hp6
  have fAp6 := drc.freshA hp6
  have drc := drc.same s1
  have sm := sm.trans s1
  have acc := (acc.on s1).snoc (d := .list [.int c, .int n, .str t]) (.lst fAp6 upd_same (.cons (.int _) (.cons (.int _) (.cons (.str _ htl) .nil))))
  have hl0 := s1 _ _ hl0
  have hl1 := s1 _ _ hl1
  have hw1 := s1 _ _ hw1
  generalize upd G9 p6 (.lst [.int c, .int n, .str t]) = G10 at drc sm acc hl0 hl1 hw1
  clear s1
  walk_at "rds"
  intro l2 hl2
  have s1 := same_upd (o := .lst [.ref p5, .ref p6]) hl2
  have fAl2 := drc.freshA hl2
  have drc := drc.same s1
  have sm := sm.trans s1
  have acc := acc.on s1
  have hl0 := s1 _ _ hl0
  have hl1 := s1 _ _ hl1
  have hw1 := s1 _ _ hw1
  have hl2 : upd G10 l2 (.lst [.ref p5, .ref p6]) l2 = some (.lst [.ref p5, .ref p6]) := upd_same
  generalize upd G10 l2 (.lst [.ref p5, .ref p6]) = G11 at drc sm acc hl0 hl1 hw1 hl2
  clear s1
  walk_at "rds"
  refine ⟨w1, l2, _, _, rfl, rfl, hw1, hl2, sz1000 (Nat.le_of_ble_eq_true rfl), ?_⟩
  walk_at "rds"
  intro w2 hw2
  have s1 := same_upd (o := .lst (([.ref p0, .ref p1, .ref p2] ++ [.ref p3, .ref p4]) ++ [.ref p5, .ref p6])) hw2
  have fAw2 := drc.freshA hw2
  have drc := drc.same s1
  have sm := sm.trans s1
  have acc := acc.on s1
  have hl0 := s1 _ _ hl0
  have hl1 := s1 _ _ hl1
  have hw1 := s1 _ _ hw1
  have hl2 := s1 _ _ hl2
  have hw2 : upd G11 w2 (.lst (([.ref p0, .ref p1, .ref p2] ++ [.ref p3, .ref p4]) ++ [.ref p5, .ref p6])) w2 = some (.lst (([.ref p0, .ref p1, .ref p2] ++ [.ref p3, .ref p4]) ++ [.ref p5, .ref p6])) := upd_same
  generalize upd G11 w2 (.lst (([.ref p0, .ref p1, .ref p2] ++ [.ref p3, .ref p4]) ++ [.ref p5, .ref p6])) = G12 at drc sm acc hl0 hl1 hw1 hl2 hw2
  clear s1
  have hes : (Str.ofString "").length ≤ 1000000 := by decide
  walk_at "rds"
  intro t7 ht7
  have s1 := same_upd (o := .tup [.str (Str.ofString "")]) ht7
  have fAt7 := drc.freshA ht7
  have drc := drc.same s1
  have sm := sm.trans s1
  have acc := acc.on s1
  have hw2 := s1 _ _ hw2
  have ht7 : upd G12 t7 (.tup [.str (Str.ofString "")]) t7 = some (.tup [.str (Str.ofString "")]) := upd_same
  generalize upd G12 t7 (.tup [.str (Str.ofString "")]) = G13 at drc sm acc hw2 ht7
  clear s1
  walk_at "rds"
  refine ⟨a, t7, _, _, rfl, rfl, (ha.same sm).sq, SqT.of ht7, (fun z => nomatch z), sz1000 (Nat.le_of_ble_eq_true rfl), (fun z => nomatch z), fun _ p7 hp7 => ?_⟩
  have s1 := same_upd (o := .tup ([.int c, .int n, .str t] ++ [.str (Str.ofString "")])) hp7
  have fAp7 := drc.freshA hp7
  have drc := drc.same s1
  have sm := sm.trans s1
  have acc := (acc.on s1).snoc (d := .tuple [.int c, .int n, .str t, .str (Str.ofString "")]) (.tup (.inl upd_same) (.cons (.int _) (.cons (.int _) (.cons (.str _ htl) (.cons (.str _ hes) .nil)))))
  have hw2 := s1 _ _ hw2
  have ht7 := s1 _ _ ht7
  generalize upd G13 p7 (.tup ([.int c, .int n, .str t] ++ [.str (Str.ofString "")])) = G14 at drc sm acc hw2 ht7
  clear s1
  walk_at "rds"
  refine ⟨a, _, 0, _, rfl, rfl, (ha.same sm).sq, atI_nat rfl, ?_⟩
  walk_at "rds"
  refine ⟨a, _, 2, _, rfl, rfl, (ha.same sm).sq, atI_nat rfl, ?_⟩
  walk_at "rds"
  intro p8 hp8
  have s1 := same_upd (o := .tup [.int c, .bl true, .str t]) hp8
  have fAp8 := drc.freshA hp8
  have drc := drc.same s1
  have sm := sm.trans s1
  have acc := (acc.on s1).snoc (d := .tuple [.int c, .bool true, .str t]) (.tup (.inl upd_same) (.cons (.int _) (.cons (.bl _) (.cons (.str _ htl) .nil))))
  have hw2 := s1 _ _ hw2
  have ht7 := s1 _ _ ht7
  generalize upd G14 p8 (.tup [.int c, .bl true, .str t]) = G15 at drc sm acc hw2 ht7
  clear s1
  walk_at "rds"
  refine ⟨a, _, 0, _, rfl, rfl, (ha.same sm).sq, atI_nat rfl, ?_⟩
  walk_at "rds"
  refine ⟨a, _, 1, _, rfl, rfl, (ha.same sm).sq, atI_nat rfl, ?_⟩
  walk_at "rds"
  intro p9 hp9
  have s1 := same_upd (o := .tup [.int c, .int n]) hp9
  have fAp9 := drc.freshA hp9
  have drc := drc.same s1
  have sm := sm.trans s1
  have acc := (acc.on s1).snoc (d := .tuple [.int c, .int n]) (.tup (.inl upd_same) (.cons (.int _) (.cons (.int _) .nil)))
  have hw2 := s1 _ _ hw2
  have ht7 := s1 _ _ ht7
  generalize upd G15 p9 (.tup [.int c, .int n]) = G16 at drc sm acc hw2 ht7
  clear s1
  walk_at "rds"
  intro l3 hl3
  have s1 := same_upd (o := .lst [.ref p7, .ref p8, .ref p9]) hl3
  have fAl3 := drc.freshA hl3
  have drc := drc.same s1
  have sm := sm.trans s1
  have acc := acc.on s1
  have hw2 := s1 _ _ hw2
  have ht7 := s1 _ _ ht7
  have hl3 : upd G16 l3 (.lst [.ref p7, .ref p8, .ref p9]) l3 = some (.lst [.ref p7, .ref p8, .ref p9]) := upd_same
  generalize upd G16 l3 (.lst [.ref p7, .ref p8, .ref p9]) = G17 at drc sm acc hw2 ht7 hl3
  clear s1
  walk_at "rds"
  refine ⟨w2, l3, _, _, rfl, rfl, hw2, hl3, sz1000 (Nat.le_of_ble_eq_true rfl), ?_⟩
  walk_at "rds"
  intro w3 hw3
  have s1 := same_upd (o := .lst ((([.ref p0, .ref p1, .ref p2] ++ [.ref p3, .ref p4]) ++ [.ref p5, .ref p6]) ++ [.ref p7, .ref p8, .ref p9])) hw3
  have fAw3 := drc.freshA hw3
  have drc := drc.same s1
  have sm := sm.trans s1
  have acc := acc.on s1
  have hw2 := s1 _ _ hw2
  have ht7 := s1 _ _ ht7
  have hl3 := s1 _ _ hl3
  have hw3 : upd G17 w3 (.lst ((([.ref p0, .ref p1, .ref p2] ++ [.ref p3, .ref p4]) ++ [.ref p5, .ref p6]) ++ [.ref p7, .ref p8, .ref p9])) w3 = some (.lst ((([.ref p0, .ref p1, .ref p2] ++ [.ref p3, .ref p4]) ++ [.ref p5, .ref p6]) ++ [.ref p7, .ref p8, .ref p9])) := upd_same
  generalize upd G17 w3 (.lst ((([.ref p0, .ref p1, .ref p2] ++ [.ref p3, .ref p4]) ++ [.ref p5, .ref p6]) ++ [.ref p7, .ref p8, .ref p9])) = G18 at drc sm acc hw2 ht7 hl3 hw3
  clear s1
  have acc : DtAll K _ (some A) [.ref p0, .ref p1, .ref p2, .ref p3, .ref p4, .ref p5, .ref p6, .ref p7, .ref p8, .ref p9] [.tuple [.int (0), .int (n), .str t], .tuple [.int (-101), .int (n), .str t], .tuple [.int (c), .int (0), .str t], .tuple [.int (c), .int (10 ^ Int.toNat 12 + 1), .str t], .tuple [.int (c), .int (n), .str (t ++ Str.ofString "\n")], .tuple [.int (c), .int (n), .str (t ++ ua)], .list [.int (c), .int (n), .str t], .tuple [.int (c), .int (n), .str t, .str (Str.ofString "")], .tuple [.int (c), .bool true, .str t], .tuple [.int (c), .int (n)]] := acc
  have bad : ∀ {j : Nat} {e : PyData}, ([.tuple [.int (0), .int (n), .str t], .tuple [.int (-101), .int (n), .str t], .tuple [.int (c), .int (0), .str t], .tuple [.int (c), .int (10 ^ Int.toNat 12 + 1), .str t], .tuple [.int (c), .int (n), .str (t ++ Str.ofString "\n")], .tuple [.int (c), .int (n), .str (t ++ ua)], .list [.int (c), .int (n), .str t], .tuple [.int (c), .int (n), .str t, .str (Str.ofString "")], .tuple [.int (c), .bool true, .str t], .tuple [.int (c), .int (n)]] : List PyData)[j]? = some e → dCmd e = false := by
    intro j e gd
    have m := List.mem_of_getElem? gd
    have cd : ∀ {x y z : PyData}, (dInt (-100) (-1) x && dInt 1 1000000000000 y && dShort 240 z) = false → dCmd (.tuple [x, y, z]) = false := fun h => h
    rcases List.mem_cons.mp m with rfl | m
    · rfl
    rcases List.mem_cons.mp m with rfl | m
    · rfl
    rcases List.mem_cons.mp m with rfl | m
    · exact cd (by rw [show dInt 1 1000000000000 (.int 0) = false from rfl, Bool.and_false, Bool.false_and])
    rcases List.mem_cons.mp m with rfl | m
    · exact cd (by rw [show dInt 1 1000000000000 (.int (10 ^ Int.toNat 12 + 1)) = false from rfl, Bool.and_false, Bool.false_and])
    rcases List.mem_cons.mp m with rfl | m
    · refine cd ?_
      rw [show dShort 240 (.str (t ++ Str.ofString "\n")) = false by show (isPr _ && _) = false; rw [isPr_app, show isPr (Str.ofString "\n") = false by decide, Bool.and_false]; rfl, Bool.and_false]
    rcases List.mem_cons.mp m with rfl | m
    · refine cd ?_
      rw [show dShort 240 (.str (t ++ ua)) = false by show (isPr _ && decide _) = false; rw [decide_eq_false (by rw [Str.length_append, lma]; omega), Bool.and_false], Bool.and_false]
    rcases List.mem_cons.mp m with rfl | m
    · rfl
    rcases List.mem_cons.mp m with rfl | m
    · rfl
    rcases List.mem_cons.mp m with rfl | m
    · exact cd (by rw [show dInt 1 1000000000000 (.bool true) = false from rfl, Bool.and_false, Bool.false_and])
    rcases List.mem_cons.mp m with rfl | m
    · rfl
    cases m
  obtain ⟨j, rfl⟩ := Int.eq_ofNat_of_zero_le r0
  have hj : j < ([.ref p0, .ref p1, .ref p2, .ref p3, .ref p4, .ref p5, .ref p6, .ref p7, .ref p8, .ref p9] : List V).length := by show j < 10; omega
  obtain ⟨e, ge, he⟩ := acc.get (List.getElem?_eq_getElem hj)
  walk_at "rds"
  refine ⟨w3, _, (j : Int), _, rfl, rfl, sq hw3, atI_nat (List.getElem?_eq_getElem hj), ?_⟩
  exact q _ _ e (md1.trans (Same.mod sm)) drc he (bad ge)
end

/-! ### the law's look at numbers -/
def spMany (K : PySem.W.Frag) : Sp := fun vs H Q _ => ∃ (D A : Addr), vs = [.ref D, .ref A] ∧ Dr H D A ∧
  ∀ (H' : Hp) (x : V) (cs : List PyData), Mod A H H' → Dr H' D A → Dt K H' A x (.tuple cs) → dCmdsFrom none cs = true → cs.length ≤ 100 → Q x H'
def prD (p : Int × Int) : PyData := .tuple [.int p.1, .int p.2]
def leP (x y : Int × Int) : Prop := x.1 < y.1 ∨ (x.1 = y.1 ∧ x.2 ≤ y.2)
theorem pairs_eq {a b : List (Int × Int)} (h : a.Perm b) (ha : a.Pairwise leP) (hb : b.Pairwise leP) : a = b :=
  h.eq_of_pairwise (fun x y _ _ h1 h2 => by
    obtain ⟨x1, x2⟩ := x; obtain ⟨y1, y2⟩ := y
    unfold leP at h1 h2
    have : x1 = y1 ∧ x2 = y2 := by simp only at h1 h2; omega
    rw [this.1, this.2]) ha hb
section
variable {P : Program} {w : World} {K : PySem.W.Frag} {mg : Str → Option Value} {base : Heap}
theorem c__law_many (T : Txt K mg) : Cal P w K mg base 2 "_law_many" (spMany K) [] := by
  have c__law_next := c__law_next (P := P) (w := w) (base := base) T
  refine cal T.d__law_many sc__law_many (fun vs H Q E h => ?_) (fun f cdv A' outer s H vs Q E hr h => ?_)
  · obtain ⟨D, A, rfl, _⟩ := h; rfl
  obtain ⟨D, A, rfl, dr, q⟩ := h
  refine ⟨_, (pss_cons (ps_set (i := 2) sc__law_many.nd rfl (Or.inl rfl) (pe_lst pa_nil))
      (pss_cons (ps_for PassesOwn.never rfl (pi_range1 (by rfl) T.z_range (pa_cons (pe_c c__law_next hr (by decide) (by rfl) (pa_cons (pv 0) (pa_cons (pv 1) (pa_cons pe_int pa_nil)))) pa_nil)) (pg_name (i := 3) sc__law_many.nd rfl (Or.inl rfl)) (pss_one (ps_expr (pe_bm PySem.F.plainAttrs_list PySem.F.slot_list_append PySem.F.type_list_append mt_append (pv 2) (pa_cons (pe_tup (pa_cons (pe_op op_add (pe_un un_neg pe_int) (pv 3)) (pa_cons (pe_op op_add pe_int (pe_c c__law_next hr (by decide) (by rfl) (pa_cons (pv 0) (pa_cons (pv 1) (pa_cons pe_int pa_nil))))) (pa_cons pe_str pa_nil)))) pa_nil)))))
      (pss_one (ps_ret (pe_callTy call_tuple_of (by rfl) T.z_tuple (by decide +kernel) (pa_cons (pv 2) pa_nil)))))), ?_⟩
  refine ⟨by decide, fun l hl => ?_⟩
  have lA := dr.freshA hl
  have lD := dr.freshD hl
  walk_at "rds"
  refine ⟨D, A, 101, rfl, dr.new hl, by decide, fun H2 n n0 n1 md2 dr2 => ?_⟩
  obtain ⟨n, rfl⟩ := Int.eq_ofNat_of_zero_le n0
  walk_at "rds"
  refine for_it walk_range (Pv := fun i σ H' => ∃ (xs : List V) (ds : List PyData) (y : Option V), σ = [some (.ref D), some (.ref A), some (.ref l), y] ∧ H' l = some (.lst xs) ∧ DtAll K H' A xs ds ∧ dCmdsFrom none ds = true ∧ (∀ k, lastC none ds = some k → k < -100 + (i : Int)) ∧ ds.length = i ∧ Mod A H H' ∧ Dr H' D A)
    ⟨[], [], none, rfl, md2 _ _ lA upd_same, .nil, rfl, (fun _ z => nomatch z), rfl, (Mod.refl.put hl).trans md2, dr2⟩ (fun _ _ _ _ _ => trivial) (fun i x σ H3 H4 hi hp hy => ?_) (fun σ H3 hp => ?_)
  · obtain ⟨xs, ds, y, rfl, hl3, hx, hc, hk, hlen, md, dr⟩ := hp
    obtain ⟨rfl, rfl⟩ := hy
    have hi' : i < n := by omega
    walk_at "rds"
    refine ⟨.inl ⟨rfl, _, sq hl3⟩, ?_⟩
    walk_at "rds"
    refine ⟨D, A, 9, rfl, dr, by decide, fun H5 r r0 r1 md5 dr5 => ?_⟩
    walk_at "rds"
    intro t ht
    have hl5 := md5 _ _ lA hl3
    have s6 := same_upd (o := .tup [.int (-100 + (0 + (i : Int))), .int (1 + r), .str (Str.ofString "x")]) ht
    have hl6 := s6 _ _ hl5
    have e : dCmd (.tuple [.int (-100 + (0 + (i : Int))), .int (1 + r), .str (Str.ofString "x")]) = true := by
      show (decide (-100 ≤ -100 + (0 + (i : Int)) ∧ -100 + (0 + (i : Int)) ≤ -1) && decide (1 ≤ 1 + r ∧ 1 + r ≤ 1000000000000) && dShort 240 (.str (Str.ofString "x"))) = true
      rw [decide_eq_true (by omega), decide_eq_true (by omega), show dShort 240 (.str (Str.ofString "x")) = true by decide +kernel]; rfl
    have ec : dClient (.tuple [.int (-100 + (0 + (i : Int))), .int (1 + r), .str (Str.ofString "x")]) = -100 + (0 + (i : Int)) := rfl
    have hd : Dt K (upd H5 t (.tup [.int (-100 + (0 + (i : Int))), .int (1 + r), .str (Str.ofString "x")])) A (.ref t) (.tuple [.int (-100 + (0 + (i : Int))), .int (1 + r), .str (Str.ofString "x")]) :=
      .tup (.inl upd_same) (.cons (.int _) (.cons (.int _) (.cons (.str _ (by decide)) .nil)))
    generalize PyData.tuple [.int (-100 + (0 + (i : Int))), .int (1 + r), .str (Str.ofString "x")] = d at e ec hd
    have all : dCmdsFrom none (ds ++ [d]) = true := by
      rw [dCmdsFrom_snoc, hc, e]
      cases ek : lastC none ds with
      | none => rfl
      | some k => exact decide_eq_true (by rw [ec]; have := hk k ek; omega)
    have hx1 := DtAll.keep (B := some A) (md5.tp dr) _ _ (dCmdsFrom_noL hc) hx
    have hx2 := DtAll.keep (B := some A) (tp_put (ys := xs ++ [.ref t]) hl6) _ _ (dCmdsFrom_noL all) ((hx1.on s6).snoc hd)
    refine ⟨l, xs, _, rfl, rfl, hl6, by rw [hx.length]; exact sz1000' (by omega), ?_⟩
    refine ⟨xs ++ [.ref t], ds ++ [d], _, rfl, upd_same, hx2, all, fun k z => ?_, by rw [List.length_append, List.length_singleton, hlen], (((md.trans md5).new ht).put hl), (dr5.new ht).put lD lA⟩
    rw [lastC_snoc] at z
    cases z
    rw [ec]; omega
  · obtain ⟨xs, ds, y, rfl, hl3, hx, hc, hk, hlen, md, dr⟩ := hp
    walk_at "rds"
    refine ⟨l, xs, rfl, .inl ⟨sq hl3, fun t ht => ?_⟩⟩
    exact q _ _ ds (md.new ht) (dr.new ht) (.tup (.inl upd_same) (hx.on (same_upd ht))) hc (by omega)
end

theorem same_none {H H' : Hp} {p : Addr} (s : Same H H') (h : H' p = none) : H p = none := by
  cases e : H p with
  | none => rfl
  | some o => rw [s p o e] at h; cases h

/-! ### the keys of last numbers -/
theorem ndAfter_len : ∀ (cs : List PyData) (ks : List (Int × Int)), (ndAfter ks cs).length ≤ ks.length + cs.length
  | [], _ => Nat.le_refl _
  | c :: r, ks => by
    have h := ndAfter_len r (putN ks (dClient c) (dNum c))
    have h2 := putN_len ks (dClient c) (dNum c)
    show (ndAfter (putN ks (dClient c) (dNum c)) r).length ≤ _
    rw [List.length_cons]; omega
def keysOk (ks : List (Int × Int)) : Prop := (ks.map (·.1)).Nodup
theorem putN_keys {ks : List (Int × Int)} (c n : Int) (h : keysOk ks) : keysOk (putN ks c n) := by
  unfold keysOk putN at *
  split
  · rw [List.map_map]
    have : ((fun x : Int × Int => x.1) ∘ fun k : Int × Int => if k.1 = c then (k.1, n) else k) = (·.1) := by
      funext k
      show (if k.1 = c then (k.1, n) else k).1 = k.1
      split <;> rfl
    rw [this]; exact h
  · rename_i hn
    rw [List.map_append, List.nodup_append]
    refine ⟨h, by simp, fun a ha b hb => ?_⟩
    have hb : b = c := by simpa using hb
    rw [hb]
    intro e
    obtain ⟨k, hk, ek⟩ := List.mem_map.mp ha
    exact hn (List.any_eq_true.mpr ⟨k, hk, decide_eq_true (ek.trans e)⟩)
theorem ndAfter_keys : ∀ (cs : List PyData) {ks : List (Int × Int)}, keysOk ks → keysOk (ndAfter ks cs)
  | [], _, h => h
  | c :: r, ks, h => ndAfter_keys r (putN_keys (dClient c) (dNum c) h)
theorem ndOpt_mem : ∀ {ks : List (Int × Int)}, keysOk ks → ∀ k ∈ ks, ndOpt ks k.1 = some k.2
  | [], _, _, m => nomatch m
  | q :: r, h, k, m => by
    unfold keysOk at h
    rw [List.map_cons, List.nodup_cons] at h
    unfold ndOpt
    rw [List.find?_cons]
    rcases List.mem_cons.mp m with rfl | m
    · rw [decide_eq_true rfl]; rfl
    · by_cases e : q.1 = k.1
      · exact absurd (e ▸ List.mem_map_of_mem (f := (·.1)) m) h.1
      · rw [decide_eq_false e]
        exact ndOpt_mem (ks := r) h.2 k m

/-! ### pairs of ints -/
inductive PrL (H : Hp) : List V → List (Int × Int) → Prop
  | nil : PrL H [] []
  | cons {t : Addr} {a b : Int} {xs : List V} {ps : List (Int × Int)} : H t = some (.tup [.int a, .int b]) → PrL H xs ps → PrL H (.ref t :: xs) ((a, b) :: ps)
def prK (H : Hp) : V → Int × Int := fun v => match v with
  | .ref t => (match H t with
    | some (.tup [.int a, .int b]) => (a, b)
    | _ => (0, 0))
  | _ => (0, 0)
theorem prK_at {H : Hp} {t : Addr} {a b : Int} (h : H t = some (.tup [.int a, .int b])) : prK H (.ref t) = (a, b) := by
  unfold prK
  simp only [h]
theorem PrL.tp {H H' : Hp} (t : Tp H H') : ∀ {xs : List V} {ps : List (Int × Int)}, PrL H xs ps → PrL H' xs ps
  | _, _, .nil => .nil
  | _, _, .cons h r => .cons (t _ _ h) (r.tp t)
theorem PrL.on {H H' : Hp} {xs : List V} {ps : List (Int × Int)} (h : PrL H xs ps) (s : Same H H') : PrL H' xs ps := h.tp (Same.tp s)
theorem PrL.snoc {H : Hp} {t : Addr} {a b : Int} (h2 : H t = some (.tup [.int a, .int b])) : ∀ {xs : List V} {ps : List (Int × Int)}, PrL H xs ps → PrL H (xs ++ [.ref t]) (ps ++ [(a, b)])
  | _, _, .nil => .cons h2 .nil
  | _, _, .cons h r => .cons h (r.snoc h2)
theorem PrL.length {H : Hp} : ∀ {xs : List V} {ps : List (Int × Int)}, PrL H xs ps → xs.length = ps.length
  | _, _, .nil => rfl
  | _, _, .cons _ r => by rw [List.length_cons, List.length_cons, r.length]
theorem PrL.eq {H : Hp} : ∀ {xs : List V} {ps : List (Int × Int)}, PrL H xs ps → ps = xs.map (prK H)
  | _, _, .nil => rfl
  | _, _, .cons h r => by rw [List.map_cons, prK_at h, ← r.eq]
theorem PrL.mem {H : Hp} : ∀ {xs : List V} {ps : List (Int × Int)}, PrL H xs ps → ∀ x ∈ xs, ∃ t, x = V.ref t ∧ H t = some (.tup [.int (prK H x).1, .int (prK H x).2])
  | _, _, .nil, _, m => nomatch m
  | _, _, .cons h r, x, m => by
    rcases List.mem_cons.mp m with rfl | m
    · exact ⟨_, rfl, by rw [prK_at h]; exact h⟩
    · exact r.mem x m
theorem PrL.of {H : Hp} : ∀ (ys : List V), (∀ x ∈ ys, ∃ t, x = V.ref t ∧ H t = some (.tup [.int (prK H x).1, .int (prK H x).2])) → PrL H ys (ys.map (prK H))
  | [], _ => .nil
  | y :: r, h => by
    obtain ⟨t, e, ht⟩ := h y List.mem_cons_self
    subst e
    rw [List.map_cons]
    have := PrL.of r (fun z hz => h z (List.mem_cons_of_mem _ hz))
    obtain ⟨a, b, e2⟩ : ∃ a b, prK H (.ref t) = (a, b) := ⟨_, _, rfl⟩
    rw [e2] at ht ⊢
    exact .cons ht this
theorem PrL.dt {K : PySem.W.Frag} {H : Hp} : ∀ {xs : List V} {ps : List (Int × Int)}, PrL H xs ps → DtAll K H none xs (ps.map prD)
  | _, _, .nil => .nil
  | _, _, .cons h r => .cons (.tup (.inl h) (.cons (.int _) (.cons (.int _) .nil))) r.dt
/-- what sorted makes of such a list -/
theorem PrL.sorted {H : Hp} {xs ys : List V} {ps : List (Int × Int)} (h : PrL H xs ps) (hs : SrtO.Srtd (ltP (prK H)) ys) (hb : SrtO.Stb (ltP (prK H)) ys xs) : ∃ qs, PrL H ys qs ∧ qs.Perm ps ∧ qs.Pairwise leP := by
  refine ⟨ys.map (prK H), PrL.of ys (fun x hx => h.mem x (hb.perm.mem_iff.mp hx)), ?_, ?_⟩
  · rw [h.eq]; exact hb.perm.map _
  · rw [List.pairwise_map]
    refine hs.imp fun {x y} e => ?_
    have := SrtO.lexB_no.mp e
    unfold leP
    omega
theorem prs_shaped (ps : List (Int × Int)) : SeqAt.shaped (.list (ps.map prD)) = true ∧ PyData.eqv (.list (ps.map prD)) (.list (ps.map prD)) = true := by
  have key : ∀ ps : List (Int × Int), PyData.canLayAll0 (ps.map prD) = true ∧ PyData.depthAll (ps.map prD) ≤ 1 := by
    intro ps
    induction ps with
    | nil => exact ⟨by simp [PyData.canLayAll0], by simp [PyData.depthAll]⟩
    | cons p r ih =>
      rw [List.map_cons]
      constructor
      · rw [PyData.canLayAll0, ih.1]; simp [prD, PyData.canLay0, PyData.canLayAll0]
      · rw [PyData.depthAll]
        have : (prD p).depth ≤ 1 := by simp [prD, PyData.depth, PyData.depthAll]
        have := ih.2
        omega
  have l : (PyData.list (ps.map prD)).canLay0 = true := by rw [PyData.canLay0]; exact (key ps).1
  refine ⟨?_, SeqAt.eqv_refl _ l⟩
  unfold SeqAt.shaped
  rw [l, decide_eq_true (by rw [PyData.depth]; have := (key ps).2; omega)]; rfl
theorem unlock_same {H H' : Hp} {d : Addr} {od : Obj} {u : HO} (hd : H d = some u) (s : Same (upd H d (.frz od u)) H') : Same H (upd H' d u) := fun b o e => by
  by_cases h : b = d
  · subst h; rw [upd_same]; rw [hd] at e; exact e
  · rw [upd_ne h]; exact s _ _ (by rw [upd_ne h]; exact e)
theorem tp_unlock {H' : Hp} {d : Addr} {od : Obj} {u v : HO} (hd : H' d = some (.frz od v)) : Tp H' (upd H' d u) := fun a xs e => by
  rw [upd_ne (ne_of e hd (by intro z; cases z))]; exact e
/-! pairs of dicts and of commands -/
def cPr (d : PyData) : Int × Int := (dClient d, dNum d)
theorem putN_perm : ∀ {ks : List (Int × Int)} (c n : Int), keysOk ks → (putN ks c n).Perm ((c, n) :: ks.filter (fun k => decide (k.1 ≠ c)))
  | [], c, n, _ => List.Perm.refl _
  | q :: r, c, n, h => by
    have h : ((q :: r).map (·.1)).Nodup := h
    rw [List.map_cons, List.nodup_cons] at h
    by_cases e : q.1 = c
    · have hr : ∀ k ∈ r, k.1 ≠ c := fun k hk z => h.1 (by rw [e, ← z]; exact List.mem_map_of_mem hk)
      have e1 : putN (q :: r) c n = (c, n) :: r := by
        unfold putN
        rw [if_pos (by rw [List.any_cons, decide_eq_true e]; rfl), List.map_cons, if_pos e, e]
        congr 1
        exact (List.map_congr_left fun k hk => if_neg (hr k hk)).trans (List.map_id' r)
      rw [e1, List.filter_cons, if_neg (by simp [e]), List.filter_eq_self.mpr (fun k hk => decide_eq_true (hr k hk))]
    · have e1 : putN (q :: r) c n = q :: putN r c n := by
        unfold putN
        rw [List.any_cons, decide_eq_false e, Bool.false_or]
        split
        · rw [List.map_cons, if_neg e]
        · rfl
      rw [e1, List.filter_cons, if_pos (decide_eq_true e)]
      exact (List.Perm.cons q (putN_perm c n h.2)).trans (List.Perm.swap _ _ _)
theorem after_perm : ∀ (cs : List PyData) {ks : List (Int × Int)}, keysOk ks → (cs.map dClient).Nodup → (ks.filter (fun k => decide (k.1 ∉ cs.map dClient)) ++ cs.map cPr).Perm (ndAfter ks cs)
  | [], ks, _, _ => by
    rw [List.map_nil, List.map_nil, List.append_nil, List.filter_eq_self.mpr (fun k _ => by simp)]
    exact List.Perm.refl _
  | d :: r, ks, hk, hn => by
    rw [List.map_cons, List.nodup_cons] at hn
    have ih := after_perm r (putN_keys (dClient d) (dNum d) hk) hn.2
    refine List.Perm.trans ?_ ih
    have h1 := (putN_perm (dClient d) (dNum d) hk).filter (fun k => decide (k.1 ∉ r.map dClient))
    rw [List.filter_cons, if_pos (decide_eq_true hn.1), List.filter_filter] at h1
    have h2 : ks.filter (fun k => decide (k.1 ∉ (d :: r).map dClient)) = ks.filter (fun a => decide (a.1 ∉ r.map dClient) && decide (a.1 ≠ dClient d)) := by
      congr 1
      funext k
      rw [List.map_cons]
      by_cases a : k.1 = dClient d <;> by_cases b : k.1 ∈ r.map dClient <;> simp [a, b]
    rw [h2, List.map_cons]
    have h3 := h1.symm.append_right (r.map cPr)
    refine List.Perm.trans ?_ h3
    show (_ ++ (cPr d :: r.map cPr)).Perm (cPr d :: (_ ++ r.map cPr))
    exact List.perm_middle
theorem cmds_nodup : ∀ (cs : List PyData) (b : Option Int), dCmdsFrom b cs = true → (cs.map dClient).Nodup ∧ ∀ c ∈ cs.map dClient, ∀ k, b = some k → k < c
  | [], _, _ => ⟨List.nodup_nil, fun _ m => nomatch m⟩
  | d :: r, b, h => by
    rw [dCmdsFrom_cons, Bool.and_eq_true, Bool.and_eq_true] at h
    obtain ⟨i1, i2⟩ := cmds_nodup r _ h.2
    rw [List.map_cons, List.nodup_cons]
    refine ⟨⟨fun m => absurd (i2 _ m _ rfl) (by omega), i1⟩, fun c m k e => ?_⟩
    subst e
    have hd : k < dClient d := of_decide_eq_true h.1.2
    rcases List.mem_cons.mp m with rfl | m
    · exact hd
    · have := i2 c m _ rfl; omega

theorem inV_int (a : Int) (ys : List Int) : inV (.int a) (ys.map V.int) = decide (a ∈ ys) := by
  unfold inV
  rw [List.any_map]
  induction ys with
  | nil => rfl
  | cons y r ih =>
    rw [List.any_cons, ih]
    by_cases h : y = a
    · subst h
      simp [eqV]
    · have h' : ¬ a = y := fun e => h e.symm
      simp [eqV, h, h']
theorem flat_ints (ys : List Int) : (ys.map V.int).all flatV = true := by
  rw [List.all_map, List.all_eq_true]
  intro x _
  rfl

def spNums (K : PySem.W.Frag) : Sp := fun vs H Q _ => ∃ (p : Addr) (v : V) (ks : List (Int × Int)) (cs : List PyData), vs = [.ref p, v] ∧ Nd H p ks ∧ keysOk ks ∧ ks.length ≤ 200 ∧ Dt K H none v (.tuple cs) ∧ dCmdsFrom none cs = true ∧ cs.length ≤ 100 ∧ ∀ H', Same H H' → Q (.bl true) H'
section
variable {P : Program} {w : World} {K : PySem.W.Frag} {mg : Str → Option Value} {base : Heap}
theorem c__law_numbers (T : Txt K mg) : Cal P w K mg base 3 "_law_numbers" (spNums K) [] := by
  have c_numbers_after := c_numbers_after (P := P) (w := w) (base := base) T
  have c_last_number := c_last_number (P := P) (w := w) (base := base) T
  have c_all_fresh := c_all_fresh (P := P) (w := w) (base := base) T
  have c__law_truth := c__law_truth (P := P) (w := w) (base := base) T
  refine cal T.d__law_numbers sc__law_numbers (fun vs H Q E h => ?_) (fun f cdv A' outer s H vs Q E hr h => ?_)
  · obtain ⟨p, v, ks, cs, rfl, _⟩ := h; rfl
  obtain ⟨p, v, ks, cs, rfl, hp, hko, hkl, hv, hc, hcl, q⟩ := h
  have hca := dCmdsFrom_all hc
  refine ⟨_, (pss_cons (ps_set (i := 2) sc__law_numbers.nd rfl (Or.inl rfl) (pe_callB cr_sortedPO (by rfl) T.z_sorted (by decide +kernel) (pa_cons (pe_lock (pe_lc (own := [("client", 9)]) (g := gName 9) (by rfl) sc__law_numbers.nd (pi_keys (pv 0)) (blkOk_by (own := [("client", 9)]) (N := ["last", "commands", "before", "result", "fresh", "clients", "due", "command", "held", "client", "key"]) (sc := defScope s__law_numbers) (by decide +kernel)) (fun _ _ _ _ _ => pg_name (i := 9) sc__law_numbers.nd rfl (Or.inl rfl)) (fun _ _ _ _ _ => pts_nil) (fun _ _ _ _ _ => (pe_tup (pa_cons (pv 9) (pa_cons (pe_dget (by exact hu_of hr) (pv 0) (pv 9) (fun _ _ => rfl)) pa_nil)))))) pa_nil)))
      (pss_cons (ps_set (i := 3) sc__law_numbers.nd rfl (Or.inr rfl) (pe_c c_numbers_after hr (by decide) (by rfl) (pa_cons (pv 0) (pa_cons (pv 1) pa_nil))))
      (pss_cons (ps_set (i := 4) sc__law_numbers.nd rfl (Or.inl rfl) pe_bl)
      (pss_cons (ps_set (i := 5) sc__law_numbers.nd rfl (Or.inr rfl) (pe_lc (own := [("command", 7)]) (g := gName 7) (by rfl) sc__law_numbers.nd (pi_tup (pv 1)) (blkOk_by (own := [("command", 7)]) (N := ["last", "commands", "before", "result", "fresh", "clients", "due", "command", "held", "client", "key"]) (sc := defScope s__law_numbers) (by decide +kernel)) (fun _ _ _ _ _ => pg_name (i := 7) sc__law_numbers.nd rfl (Or.inl rfl)) (fun _ _ _ _ _ => pts_nil) (fun _ _ _ _ _ => (pe_ix (kixt (K := K)) (pv 7) pe_int (fun _ _ => rfl)))))
      (pss_cons (ps_lock (ps_setLc (i := 6) (own := [("client", 9)]) (g := gName 9) rfl sc__law_numbers.nd rfl rfl (sw_true rfl rfl rfl (by decide +kernel)) (pi_keys (pv 0)) (blkOk_by (own := [("client", 9)]) (N := ["last", "commands", "before", "result", "fresh", "clients", "due", "command", "held", "client", "key"]) (sc := defScope s__law_numbers) (by decide +kernel)) (fun _ _ _ _ _ => pg_name (i := 9) sc__law_numbers.nd rfl (Or.inl rfl)) (fun _ _ _ _ _ => pts_one (pt_cmpR (knin (K := K)) (pv 9) (pv 5) (by rfl))) (fun _ _ _ _ _ => (pe_tup (pa_cons (pv 9) (pa_cons (pe_dget (by exact hu_of hr) (pv 0) (pv 9) (fun _ _ => rfl)) pa_nil))))))
      (pss_cons (ps_for PassesOwn.never rfl (pi_tup (pv 1)) (pg_name (i := 7) sc__law_numbers.nd rfl (Or.inl rfl)) (pss_cons (ps_set (i := 8) sc__law_numbers.nd rfl (Or.inl rfl) pe_int)
      (pss_cut (ps_if (pt_cmp (pc_din (by exact hu_of hr) (pe_ix (kixt (K := K)) (pv 7) pe_int (fun _ _ => rfl)) (pv 0))) (pss_one (ps_set (i := 8) sc__law_numbers.nd rfl (Or.inl rfl) (pe_dget (by exact hu_of hr) (pv 0) (pe_ix (kixt (K := K)) (pv 7) pe_int (fun _ _ => rfl)) (fun _ _ => rfl)))) pss_nil)
      (pss_cons (ps_if (pt_cmpR op_ne (pe_c c_last_number hr (by decide) (by rfl) (pa_cons (pv 0) (pa_cons (pe_ix (kixt (K := K)) (pv 7) pe_int (fun _ _ => rfl)) pa_nil))) (pv 8) (nomark _)) (pss_one (ps_ret pe_bl)) pss_nil)
      (pss_cut (ps_if (pt_cmpR op_le (pe_ix (kixt (K := K)) (pv 7) pe_int (fun _ _ => rfl)) (pv 8) (nomark _)) (pss_one (ps_set (i := 4) sc__law_numbers.nd rfl (Or.inl rfl) pe_bl)) pss_nil)
      (pss_one (ps_expr (pe_bm PySem.F.plainAttrs_list PySem.F.slot_list_append PySem.F.type_list_append mt_append (pv 6) (pa_cons (pe_tup (pa_cons (pe_ix (kixt (K := K)) (pv 7) pe_int (fun _ _ => rfl)) (pa_cons (pe_ix (kixt (K := K)) (pv 7) pe_int (fun _ _ => rfl)) pa_nil))) pa_nil)))))))))
      (pss_cons (ps_if (PW.pt (pw_or (pt_not (pt_val (pe_callB (kisi (K := K)) (by rfl) T.z_isinstance (by decide +kernel) (pa_cons (pv 3) (pa_cons (pe_bltn (v := .ty "dict") (by rfl) T.z_dict (by decide +kernel) rfl) pa_nil))))) (pw_or1 (pt_cmpR (op_neD hr.units) (pe_callB cr_sortedPO (by rfl) T.z_sorted (by decide +kernel) (pa_cons (pe_lock (pe_lc (own := [("key", 10)]) (g := gName 10) (by rfl) sc__law_numbers.nd (pi_keys (pv 3)) (blkOk_by (own := [("key", 10)]) (N := ["last", "commands", "before", "result", "fresh", "clients", "due", "command", "held", "client", "key"]) (sc := defScope s__law_numbers) (by decide +kernel)) (fun _ _ _ _ _ => pg_name (i := 10) sc__law_numbers.nd rfl (Or.inl rfl)) (fun _ _ _ _ _ => pts_nil) (fun _ _ _ _ _ => (pe_tup (pa_cons (pv 10) (pa_cons (pe_dget (by exact hu_of hr) (pv 3) (pv 10) (fun _ _ => rfl)) pa_nil)))))) pa_nil)) (pe_callB cr_sortedPO (by rfl) T.z_sorted (by decide +kernel) (pa_cons (pv 6) pa_nil)) (nomark _))))) (pss_one (ps_ret pe_bl)) pss_nil)
      (pss_cons (ps_if (pt_not (pt_val (pe_c c__law_truth hr (by decide) (by rfl) (pa_cons (pe_c c_all_fresh hr (by decide) (by rfl) (pa_cons (pv 0) (pa_cons (pv 1) pa_nil))) (pa_cons (pv 4) pa_nil))))) (pss_one (ps_ret pe_bl)) pss_nil)
      (pss_cons (ps_dput (hu_of hr) (pv 3) (pe_un un_neg pe_int) pe_int rfl)
      (pss_one (ps_ret (pe_cmpR (op_eqD hr.units) (pe_callB cr_sortedPO (by rfl) T.z_sorted (by decide +kernel) (pa_cons (pe_lock (pe_lc (own := [("client", 9)]) (g := gName 9) (by rfl) sc__law_numbers.nd (pi_keys (pv 0)) (blkOk_by (own := [("client", 9)]) (N := ["last", "commands", "before", "result", "fresh", "clients", "due", "command", "held", "client", "key"]) (sc := defScope s__law_numbers) (by decide +kernel)) (fun _ _ _ _ _ => pg_name (i := 9) sc__law_numbers.nd rfl (Or.inl rfl)) (fun _ _ _ _ _ => pts_nil) (fun _ _ _ _ _ => (pe_tup (pa_cons (pv 9) (pa_cons (pe_dget (by exact hu_of hr) (pv 0) (pv 9) (fun _ _ => rfl)) pa_nil)))))) pa_nil)) (pv 2) (nomark _))))))))))))), ?_⟩
  walk_at "rds"
  refine ⟨p, _, hp, trivial, fun odA => ?_⟩
  have lkA : upd H p (.frz odA (.dK ((ks).map ndK))) p = some (.frz odA (.dK ((ks).map ndK))) := upd_same
  walk_at "rds"
  refine ⟨p, odA, rfl, .inl ⟨_, lkA, fun DA hDA => ?_⟩⟩
  refine lc_it (walk_keys (d := p) (o := odA) (kvs := (ks).map ndK)) (Pv := fun i H' => ∃ xs, Same (upd H p (.frz odA (.dK ((ks).map ndK)))) H' ∧ H' DA = some (.lst xs) ∧ PrL H' xs ((ks).take i)) ⟨[], same_upd hDA, upd_same, .nil⟩ (fun _ _ _ h => by obtain ⟨_, h, _⟩ := h; exact h _ _ lkA) (fun i x H6 H7 hi hp2 hy => ?_) (fun H6 hp2 => ?_)
  · obtain ⟨xs, s6, hD6, hx6⟩ := hp2
    obtain ⟨rfl, k, u, gx, rfl⟩ := hy
    rw [List.getElem?_map, Option.map_eq_some_iff] at gx
    obtain ⟨pr, gp, e⟩ := gx
    cases e
    have hid : i < (ks).length := (List.getElem?_eq_some_iff.mp gp).1
    have hl := s6 _ _ lkA
    have hg : valV ((ks).map ndK) (Sum.inl pr.1 : Key) = some (V.int pr.2) := by rw [nd_val, ndOpt_mem (by exact hko) pr (List.mem_of_getElem? gp)]; rfl
    have ht : (ks).take (i + 1) = (ks).take i ++ [pr] := by rw [List.take_add_one, gp]; rfl
    rw [ht]
    refine ⟨rfl, tyes ?_⟩
    walk_at "rds"
    refine ⟨p, _, rfl, .inl ⟨_, Sum.inl pr.1, .inr ⟨_, hl⟩, rfl, hg.symm⟩, ?_⟩
    walk_at "rds"
    intro t htn
    have hD7 := (same_upd (o := .tup [.int pr.1, .int pr.2]) htn) _ _ hD6
    refine ⟨xs, hD7, by rw [hx6.length, List.length_take]; exact sz1000' (by omega), xs ++ [.ref t], same_mut (s6.trans (same_upd htn)) hDA, upd_same, ?_⟩
    exact ((hx6.on (same_upd htn)).snoc (a := pr.1) (b := pr.2) upd_same).tp (tp_put hD7)
  obtain ⟨xsA, s6, hD6, hx6⟩ := hp2
  rw [List.length_map, List.take_of_length_le (Nat.le_refl _)] at hx6
  have hl := s6 _ _ lkA
  refine ⟨hl, ?_⟩
  have s1 := unlock_same (hp) s6
  have neA : DA ≠ p := fun e => by rw [e] at hD6; rw [hl] at hD6; cases hD6
  have hEA : upd H6 p (.dK ((ks).map ndK)) DA = some (.lst xsA) := by rw [upd_ne neA]; exact hD6
  have hPA : PrL (upd H6 p (.dK ((ks).map ndK))) xsA (ks) := hx6.tp (tp_unlock hl)
  generalize upd H6 p (.dK ((ks).map ndK)) = G1 at s1 hEA hPA
  clear hl hx6 hD6 s6
  walk_at "rds"
  refine ⟨DA, xsA, prK G1, rfl, sq hEA, hPA.mem, fun ysA BA hsA hbA hBA => ?_⟩
  obtain ⟨qsA, hqA, hpA, hwA⟩ := hPA.sorted hsA hbA
  have s2 := s1.trans (same_upd (o := .lst ysA) hBA)
  have hqA := hqA.on (same_upd (o := .lst ysA) hBA)
  have hB2 : upd G1 BA (.lst ysA) BA = some (.lst ysA) := upd_same
  generalize upd G1 BA (.lst ysA) = G2 at s2 hqA hB2
  have hp2 := s2 _ _ hp
  walk_at "rds"
  refine ⟨p, v, ks, cs, rfl, hp2, hv.on s2, hca, by omega, fun R G3 hR s3 hR3 => ?_⟩
  walk_at "rds"
  have s4 := s2.trans s3
  obtain ⟨b, zs, rfl, hb, hz⟩ : ∃ b zs, v = .ref b ∧ TupAt K H b zs ∧ DtAll K H none zs cs := by
    cases hv with
    | tup hb hx => exact ⟨_, _, rfl, hb, hx⟩
  have hzl := hz.length
  refine ⟨b, rfl, ⟨zs, (hb.same s4).sq⟩, fun Cl hCl => ?_⟩
  refine lc_it (walk_tup (K := K) (a := b) (xs := zs)) (Pv := fun i H' => Same G3 H' ∧ H' Cl = some (.lst ((cs.take i).map (fun d => V.int (dClient d))))) ⟨same_upd hCl, upd_same⟩ (fun _ _ _ h => (hb.same (s4.trans h.1)).sq) (fun i x H6 H7 hi hp2 hy => ?_) (fun H6 hp2 => ?_)
  · obtain ⟨s6, hC6⟩ := hp2
    obtain ⟨rfl, gx⟩ := hy
    obtain ⟨d, gd, hdx⟩ := hz.get gx
    obtain ⟨aq, x3, rfl, haq⟩ := Dt.nums (hca d (List.mem_of_getElem? gd)) (hdx.on (s4.trans s6))
    have ht : cs.take (i + 1) = cs.take i ++ [d] := by rw [List.take_add_one, gd]; rfl
    rw [ht, List.map_append]
    refine ⟨rfl, tyes ?_⟩
    walk_at "rds"
    refine ⟨aq, _, 0, _, rfl, rfl, haq.sq, atI_nat (j := 0) rfl, ?_⟩
    exact ⟨_, hC6, by rw [List.length_map, List.length_take]; exact sz1000' (by omega), same_mut s6 hCl, upd_same⟩
  obtain ⟨s6, hC6⟩ := hp2
  rw [List.take_of_length_le (by omega)] at hC6
  have s5 := s4.trans s6
  have hB5 := s6 _ _ (s3 _ _ hB2)
  have hq5 := (hqA.on s3).on s6
  have hR5 := s6 _ _ hR3
  have hp5 : Nd H6 p ks := s5 _ _ hp
  generalize H6 = G5 at s5 hB5 hq5 hR5 hp5 hC6

  clear s6
  walk_at "rds"
  refine ⟨p, _, hp5, trivial, fun odB => ?_⟩
  have lkB : upd G5 p (.frz odB (.dK (ks.map ndK))) p = some (.frz odB (.dK (ks.map ndK))) := upd_same
  have neC : Cl ≠ p := fun e => by rw [e, show G5 p = some (.dK (ks.map ndK)) from hp5] at hC6; cases hC6
  have hCB : upd G5 p (.frz odB (.dK (ks.map ndK))) Cl = some (.lst (cs.map (fun d => V.int (dClient d)))) := by rw [upd_ne neC]; exact hC6
  walk_at "rds"
  refine ⟨p, odB, rfl, .inl ⟨_, lkB, fun Du hDu => ?_⟩⟩
  refine lc_it (walk_keys (d := p) (o := odB) (kvs := ks.map ndK)) (Pv := fun i H' => ∃ xs, Same (upd G5 p (.frz odB (.dK (ks.map ndK)))) H' ∧ H' Du = some (.lst xs) ∧ PrL H' xs ((ks.take i).filter (fun k => decide (k.1 ∉ cs.map dClient)))) ⟨[], same_upd hDu, upd_same, .nil⟩ (fun _ _ _ h => by obtain ⟨_, h, _⟩ := h; exact h _ _ lkB) (fun i x H6 H7 hi hp2 hy => ?_) (fun H6 hp2 => ?_)
  · obtain ⟨xs, s6, hD6, hx6⟩ := hp2
    obtain ⟨rfl, k, u, gx, rfl⟩ := hy
    rw [List.getElem?_map, Option.map_eq_some_iff] at gx
    obtain ⟨pr, gp, e⟩ := gx
    cases e
    have hid : i < ks.length := (List.getElem?_eq_some_iff.mp gp).1
    have hl := s6 _ _ lkB
    have hg : valV (ks.map ndK) (Sum.inl pr.1 : Key) = some (V.int pr.2) := by rw [nd_val, ndOpt_mem hko pr (List.mem_of_getElem? gp)]; rfl
    have ht : ks.take (i + 1) = ks.take i ++ [pr] := by rw [List.take_add_one, gp]; rfl
    rw [ht, List.filter_append, List.filter_cons, List.filter_nil]
    have hlen : xs.length ≤ 200 := by
      rw [hx6.length]
      exact Nat.le_trans (List.length_filter_le _ _) (by rw [List.length_take]; omega)
    have hCl2 : H7 Cl = some (.lst ((cs.map dClient).map V.int)) := by rw [List.map_map]; exact s6 _ _ hCB
    refine ⟨rfl, ?_⟩
    walk_at "rds"
    refine ⟨Cl, _, rfl, .inl (sq hCl2), rfl, flat_ints _, ?_⟩
    refine ⟨_, rfl, ?_⟩
    rw [show kV (Sum.inl pr.1 : Key) = V.int pr.1 from rfl, inV_int]
    by_cases hm : pr.1 ∈ cs.map dClient
    · rw [decide_eq_true hm]
      refine ifF rfl ?_
      refine ⟨xs, s6, hD6, ?_⟩
      rw [if_neg (by simp [hm]), List.append_nil]
      exact hx6
    · rw [decide_eq_false hm]
      refine ifT rfl ?_
      walk_at "rds"
      refine ⟨p, _, rfl, .inl ⟨_, Sum.inl pr.1, .inr ⟨_, hl⟩, rfl, hg.symm⟩, ?_⟩
      walk_at "rds"
      intro t htn
      have hD7 := (same_upd (o := .tup [.int pr.1, .int pr.2]) htn) _ _ hD6
      refine ⟨xs, hD7, sz1000' (by omega), xs ++ [.ref t], same_mut (s6.trans (same_upd htn)) hDu, upd_same, ?_⟩
      rw [if_pos (by simp [hm])]
      exact ((hx6.on (same_upd htn)).snoc (a := pr.1) (b := pr.2) upd_same).tp (tp_put hD7)
  obtain ⟨xsD, s6, hD6, hx6⟩ := hp2
  rw [List.length_map, List.take_of_length_le (Nat.le_refl _)] at hx6
  have hl := s6 _ _ lkB
  refine ⟨hl, ?_⟩
  have s7 := unlock_same (show G5 p = some (.dK (ks.map ndK)) from hp5) s6
  have neD : Du ≠ p := fun e => by rw [e] at hD6; rw [hl] at hD6; cases hD6
  have hDu7 : upd H6 p (.dK (ks.map ndK)) Du = some (.lst xsD) := by rw [upd_ne neD]; exact hD6
  have hxD : PrL (upd H6 p (.dK (ks.map ndK))) xsD (ks.filter (fun k => decide (k.1 ∉ cs.map dClient))) := hx6.tp (tp_unlock hl)
  have hDu0 : G5 Du = none := by
    have := hDu
    rw [upd_ne neD] at this
    exact this
  generalize upd H6 p (.dK (ks.map ndK)) = G6 at s7 hDu7 hxD
  clear hl hx6 hD6 s6
  have s8 := s5.trans s7
  have hB6 := s7 _ _ hB5
  have hq6 := hq5.on s7
  have hR6 := s7 _ _ hR5
  have hp6 : Nd G6 p ks := s7 _ _ hp5
  have hDuH : H Du = none := same_none s5 hDu0
  have nDB : BA ≠ Du := ne_of_none hB5 hDu0
  have nDR : R ≠ Du := ne_of_none hR5 hDu0
  have nDp : p ≠ Du := neD.symm
  have hx8 : DtAll K G6 none zs cs := hz.on s8
  walk_at "rds"
  refine ⟨⟨zs, (hb.same s8).sq⟩, ?_⟩
  refine for_it (walk_tup (K := K) (a := b) (xs := zs)) (Pv := fun i σ H' => ∃ y7 y8 xs, σ = [some (.ref p), some (.ref b), some (.ref BA), some (.ref R), some (.bl (dFresh ks (cs.take i))), some (.ref Cl), some (.ref Du), y7, y8, none, none] ∧ Mod Du G6 H' ∧ H' Du = some (.lst xs) ∧ PrL H' xs (ks.filter (fun k => decide (k.1 ∉ cs.map dClient)) ++ (cs.take i).map cPr))
    ⟨none, none, xsD, rfl, Mod.refl, hDu7, by rw [List.take_zero, List.map_nil, List.append_nil]; exact hxD⟩ (fun i σ H' _ h => by
      obtain ⟨_, _, _, _, m, _⟩ := h
      exact ((hb.same s8).tp (fun a xs e => m _ _ (ne_of e hDu7 (by intro z; cases z)) e)).sq) (fun i x σ H6 H7 hi hp2 hy => ?_) (fun σ H6 hp2 => ?_)
  · obtain ⟨y7, y8, xs, rfl, md, hD, hx⟩ := hp2
    obtain ⟨rfl, gx⟩ := hy
    obtain ⟨d, gd, hdx⟩ := hx8.get gx
    have hid : i < cs.length := (List.getElem?_eq_some_iff.mp gd).1
    have tpm : Tp G6 H7 := fun a xs e => md _ _ (ne_of e hDu7 (by intro z; cases z)) e
    have hdc := hca d (List.mem_of_getElem? gd)
    obtain ⟨aq, x3, rfl, haq⟩ := Dt.nums hdc (Dt.keep (B := none) tpm _ _ (dCmd_noL hdc) hdx)
    have ht : cs.take (i + 1) = cs.take i ++ [d] := by rw [List.take_add_one, gd]; rfl
    have hpn : Nd H7 p ks := md _ _ nDp hp6
    have hlx : xs.length ≤ 400 := by
      rw [hx.length, List.length_append, List.length_map, List.length_take]
      have := List.length_filter_le (fun k : Int × Int => decide (k.1 ∉ cs.map dClient)) ks
      omega
    walk_at "rds"
    refine ⟨fun σ' H' => H' = H7 ∧ σ' = [some (.ref p), some (.ref b), some (.ref BA), some (.ref R), some (.bl (dFresh ks (cs.take i))), some (.ref Cl), some (.ref Du), some (.ref aq), some (.int (ndGet ks (dClient d))), none, none], ?_, ?_⟩
    · walk_at "rds"
      refine ⟨aq, _, 0, _, rfl, rfl, haq.sq, atI_nat (j := 0) rfl, ?_⟩
      walk_at "rds"
      refine ⟨p, _, rfl, DGet.k (k := Sum.inl (dClient d)) hpn, ?_⟩
      rw [nd_val]
      cases e : ndOpt ks (dClient d) with
      | none =>
        refine ⟨false, rfl, ?_⟩
        refine ifF rfl ?_
        refine ⟨rfl, ?_⟩
        unfold ndGet; rw [e]; rfl
      | some m =>
        refine ⟨true, rfl, ?_⟩
        refine ifT rfl ?_
        walk_at "rds"
        refine ⟨aq, _, 0, _, rfl, rfl, haq.sq, atI_nat (j := 0) rfl, ?_⟩
        refine ⟨p, _, rfl, DGet.k (k := Sum.inl (dClient d)) hpn |> (fun h => by rw [nd_val, e] at h; exact h), ?_⟩
        refine ⟨rfl, ?_⟩
        unfold ndGet; rw [e]; rfl
    rintro σ' H8 ⟨rfl, rfl⟩
    walk_at "rds"
    refine ⟨aq, _, 0, _, rfl, rfl, haq.sq, atI_nat (j := 0) rfl, ?_⟩
    walk_at "rds"
    refine ⟨p, ks, _, rfl, hpn, ?_⟩
    walk_at "rds"
    refine ifF (by show (!decide (V.int (ndGet ks (dClient d)) = V.int (ndGet ks (dClient d)))) = false; rw [decide_eq_true rfl]; rfl) ?_
    walk_at "rds"
    refine ⟨fun σ' H' => H' = H8 ∧ σ' = [some (.ref p), some (.ref b), some (.ref BA), some (.ref R), some (.bl (dFresh ks (cs.take (i + 1)))), some (.ref Cl), some (.ref Du), some (.ref aq), some (.int (ndGet ks (dClient d))), none, none], ?_, ?_⟩
    · have ef : dFresh ks (cs.take (i + 1)) = (dFresh ks (cs.take i) && decide (ndGet ks (dClient d) < dNum d)) := by
        rw [ht]; unfold dFresh; rw [List.all_append]; simp
      walk_at "rds"
      refine ⟨aq, _, 1, _, rfl, rfl, haq.sq, atI_nat (j := 1) rfl, ?_⟩
      walk_at "rds"
      refine ite2 (fun e => ?_) (fun e => ?_)
      · have e : dNum d ≤ ndGet ks (dClient d) := of_decide_eq_true e
        walk_at "rds"
        refine ⟨rfl, ?_⟩
        rw [ef, decide_eq_false (by omega), Bool.and_false]; rfl
      · have e : ¬ dNum d ≤ ndGet ks (dClient d) := fun z => e (decide_eq_true z)
        refine ⟨rfl, ?_⟩
        rw [ef, decide_eq_true (by omega), Bool.and_true]
    rintro σ' H9 ⟨rfl, rfl⟩
    walk_at "rds"
    refine ⟨.inl ⟨rfl, _, sq hD⟩, ?_⟩
    walk_at "rds"
    refine ⟨aq, _, 0, _, rfl, rfl, haq.sq, atI_nat (j := 0) rfl, ?_⟩
    walk_at "rds"
    refine ⟨aq, _, 1, _, rfl, rfl, haq.sq, atI_nat (j := 1) rfl, ?_⟩
    walk_at "rds"
    intro t htn
    have hD7 := (same_upd (o := .tup [.int (dClient d), .int (dNum d)]) htn) _ _ hD
    refine ⟨Du, xs, _, rfl, rfl, hD7, sz1000' (by omega), ?_⟩
    refine ⟨_, _, xs ++ [.ref t], rfl, fun c o n e => by rw [upd_ne n]; exact (same_upd htn) _ _ (md _ _ n e), upd_same, ?_⟩
    rw [ht, List.map_append, ← List.append_assoc]
    exact ((hx.on (same_upd htn)).snoc (a := dClient d) (b := dNum d) upd_same).tp (tp_put hD7)
  obtain ⟨y7, y8, xs, rfl, md, hD, hx⟩ := hp2
  rw [List.take_of_length_le (by omega)] at hx
  have tpm : Tp G6 H6 := fun a xs e => md _ _ (ne_of e hDu7 (by intro z; cases z)) e
  have sH : Same H H6 := fun c o e => md _ _ (ne_of_none e hDuH) (s8 _ _ e)
  have hBf := md _ _ nDB hB6
  have hqf := hq6.tp tpm
  have hRf : H6 R = some (.dK ((ndAfter ks cs).map ndK)) := md _ _ nDR hR6
  have hkA := ndAfter_keys cs hko
  have hlA := ndAfter_len cs ks
  rw [show cs.take zs.length = cs by rw [hzl, List.take_of_length_le (Nat.le_refl _)]]
  walk_at "rds"
  walk_at "isi"
  walk_at "rds"
  refine ⟨R, _, hRf, trivial, fun odC => ?_⟩
  have lkC : upd H6 R (.frz odC (.dK ((ndAfter ks cs).map ndK))) R = some (.frz odC (.dK ((ndAfter ks cs).map ndK))) := upd_same
  walk_at "rds"
  refine ⟨R, odC, rfl, .inl ⟨_, lkC, fun DC hDC => ?_⟩⟩
  refine lc_it (walk_keys (d := R) (o := odC) (kvs := (ndAfter ks cs).map ndK)) (Pv := fun i H' => ∃ xs, Same (upd H6 R (.frz odC (.dK ((ndAfter ks cs).map ndK)))) H' ∧ H' DC = some (.lst xs) ∧ PrL H' xs ((ndAfter ks cs).take i)) ⟨[], same_upd hDC, upd_same, .nil⟩ (fun _ _ _ h => by obtain ⟨_, h, _⟩ := h; exact h _ _ lkC) (fun i x H6 H7 hi hp2 hy => ?_) (fun H6 hp2 => ?_)
  · obtain ⟨xs, s6, hD6, hx6⟩ := hp2
    obtain ⟨rfl, k, u, gx, rfl⟩ := hy
    rw [List.getElem?_map, Option.map_eq_some_iff] at gx
    obtain ⟨pr, gp, e⟩ := gx
    cases e
    have hid : i < (ndAfter ks cs).length := (List.getElem?_eq_some_iff.mp gp).1
    have hl := s6 _ _ lkC
    have hg : valV ((ndAfter ks cs).map ndK) (Sum.inl pr.1 : Key) = some (V.int pr.2) := by rw [nd_val, ndOpt_mem (by exact hkA) pr (List.mem_of_getElem? gp)]; rfl
    have ht : (ndAfter ks cs).take (i + 1) = (ndAfter ks cs).take i ++ [pr] := by rw [List.take_add_one, gp]; rfl
    rw [ht]
    refine ⟨rfl, tyes ?_⟩
    walk_at "rds"
    refine ⟨R, _, rfl, .inl ⟨_, Sum.inl pr.1, .inr ⟨_, hl⟩, rfl, hg.symm⟩, ?_⟩
    walk_at "rds"
    intro t htn
    have hD7 := (same_upd (o := .tup [.int pr.1, .int pr.2]) htn) _ _ hD6
    refine ⟨xs, hD7, by rw [hx6.length, List.length_take]; exact sz1000' (by omega), xs ++ [.ref t], same_mut (s6.trans (same_upd htn)) hDC, upd_same, ?_⟩
    exact ((hx6.on (same_upd htn)).snoc (a := pr.1) (b := pr.2) upd_same).tp (tp_put hD7)
  obtain ⟨xsC, s6, hD6, hx6⟩ := hp2
  rw [List.length_map, List.take_of_length_le (Nat.le_refl _)] at hx6
  have hl := s6 _ _ lkC
  refine ⟨hl, ?_⟩
  have s9 := unlock_same (hRf) s6
  have neC : DC ≠ R := fun e => by rw [e] at hD6; rw [hl] at hD6; cases hD6
  have hEC : upd H6 R (.dK ((ndAfter ks cs).map ndK)) DC = some (.lst xsC) := by rw [upd_ne neC]; exact hD6
  have hPC : PrL (upd H6 R (.dK ((ndAfter ks cs).map ndK))) xsC (ndAfter ks cs) := hx6.tp (tp_unlock hl)
  generalize upd H6 R (.dK ((ndAfter ks cs).map ndK)) = G7 at s9 hEC hPC
  clear hl hx6 hD6 s6
  have hx7 := hx.on s9
  have hD7 := s9 _ _ hD
  walk_at "rds"
  refine ⟨DC, xsC, prK G7, rfl, sq hEC, hPC.mem, fun ysC BC hsC hbC hBC => ?_⟩
  obtain ⟨qsC, hqC, hpC, hwC⟩ := hPC.sorted hsC hbC
  have sC := same_upd (o := .lst ysC) hBC
  have hqC := hqC.on sC
  have hB8 : upd G7 BC (.lst ysC) BC = some (.lst ysC) := upd_same
  have hx8' := hx7.on sC
  have hD8 := sC _ _ hD7
  have s10 := s9.trans sC
  generalize upd G7 BC (.lst ysC) = G8 at hqC hB8 hx8' hD8 s10
  walk_at "rds"
  refine ⟨Du, xs, prK G8, rfl, sq hD8, hx8'.mem, fun ysD BD hsD hbD hBD => ?_⟩
  obtain ⟨qsD, hqD, hpD, hwD⟩ := hx8'.sorted hsD hbD
  have sD := same_upd (o := .lst ysD) hBD
  have hqD := hqD.on sD
  have hB9 : upd G8 BD (.lst ysD) BD = some (.lst ysD) := upd_same
  have hqC := hqC.on sD
  have hB8 := sD _ _ hB8
  have s11 := s10.trans sD
  generalize upd G8 BD (.lst ysD) = G9 at hqC hqD hB8 hB9 s11
  have eqs : qsC = qsD := pairs_eq (hpC.trans ((after_perm cs hko (cmds_nodup cs none hc).1).symm.trans hpD.symm)) hwC hwD
  subst eqs
  obtain ⟨sh, ev⟩ := prs_shaped qsC
  walk_at "rds"
  refine ⟨.list _, .list _, .lst (sq hB8) (DtAll.dp _ _ hqC.dt), .lst (sq hB9) (DtAll.dp _ _ hqD.dt), sh, sh, ?_⟩
  rw [ev]
  walk_at "rds"
  have hp9 : Nd G9 p ks := s11 _ _ (md _ _ nDp hp6)
  have hv9 : Dt K G9 none (.ref b) (.tuple cs) := Dt.keep (fun a xs e => s11 _ _ (tpm _ _ e)) _ _ (show noL (.tuple cs) = true from dCmdsFrom_noL hc) (hv.on s8)
  refine ⟨p, .ref b, ks, cs, rfl, hp9, hv9, hca, ?_⟩
  walk_at "rds"
  refine ⟨_, _, rfl, ?_⟩
  walk_at "rds"
  refine ifF (by show (!decide (V.bl (dFresh ks cs) = V.bl (dFresh ks cs))) = false; rw [decide_eq_true rfl]; rfl) ?_
  walk_at "rds"
  refine ⟨R, _, rfl, DPut.k (k := Sum.inl (-200)) (s11 _ _ hRf) (by rw [List.length_map]; exact sz1000' (by omega)), ?_⟩
  have nRp : p ≠ R := ne_of_none hp2 hR
  have nRB : BA ≠ R := ne_of_none hB2 hR
  have tpR : Tp G9 (upd G9 R (.dK (putK ((ndAfter ks cs).map ndK) (Sum.inl (-200)) (.int 1)))) := fun a xs e => by rw [upd_ne (ne_of e (s11 _ _ hRf) (by intro z; cases z))]; exact e
  have hpX : (upd G9 R (.dK (putK ((ndAfter ks cs).map ndK) (Sum.inl (-200)) (.int 1)))) p = some (.dK (ks.map ndK)) := by rw [upd_ne nRp]; exact hp9
  have hBX : (upd G9 R (.dK (putK ((ndAfter ks cs).map ndK) (Sum.inl (-200)) (.int 1)))) BA = some (.lst ysA) := by rw [upd_ne nRB]; exact s11 _ _ hBf
  have hqX := (hqf.on s11).tp tpR
  have sX : Same H (upd G9 R (.dK (putK ((ndAfter ks cs).map ndK) (Sum.inl (-200)) (.int 1)))) := same_mut (sH.trans s11) (same_none s2 hR)
  generalize upd G9 R (.dK (putK ((ndAfter ks cs).map ndK) (Sum.inl (-200)) (.int 1))) = GX at hpX hBX hqX sX
  walk_at "rds"
  refine ⟨p, _, hpX, trivial, fun odE => ?_⟩
  have lkE : upd GX p (.frz odE (.dK ((ks).map ndK))) p = some (.frz odE (.dK ((ks).map ndK))) := upd_same
  walk_at "rds"
  refine ⟨p, odE, rfl, .inl ⟨_, lkE, fun DE hDE => ?_⟩⟩
  refine lc_it (walk_keys (d := p) (o := odE) (kvs := (ks).map ndK)) (Pv := fun i H' => ∃ xs, Same (upd GX p (.frz odE (.dK ((ks).map ndK)))) H' ∧ H' DE = some (.lst xs) ∧ PrL H' xs ((ks).take i)) ⟨[], same_upd hDE, upd_same, .nil⟩ (fun _ _ _ h => by obtain ⟨_, h, _⟩ := h; exact h _ _ lkE) (fun i x H6 H7 hi hp2 hy => ?_) (fun H6 hp2 => ?_)
  · obtain ⟨xs, s6, hD6, hx6⟩ := hp2
    obtain ⟨rfl, k, u, gx, rfl⟩ := hy
    rw [List.getElem?_map, Option.map_eq_some_iff] at gx
    obtain ⟨pr, gp, e⟩ := gx
    cases e
    have hid : i < (ks).length := (List.getElem?_eq_some_iff.mp gp).1
    have hl := s6 _ _ lkE
    have hg : valV ((ks).map ndK) (Sum.inl pr.1 : Key) = some (V.int pr.2) := by rw [nd_val, ndOpt_mem (by exact hko) pr (List.mem_of_getElem? gp)]; rfl
    have ht : (ks).take (i + 1) = (ks).take i ++ [pr] := by rw [List.take_add_one, gp]; rfl
    rw [ht]
    refine ⟨rfl, tyes ?_⟩
    walk_at "rds"
    refine ⟨p, _, rfl, .inl ⟨_, Sum.inl pr.1, .inr ⟨_, hl⟩, rfl, hg.symm⟩, ?_⟩
    walk_at "rds"
    intro t htn
    have hD7 := (same_upd (o := .tup [.int pr.1, .int pr.2]) htn) _ _ hD6
    refine ⟨xs, hD7, by rw [hx6.length, List.length_take]; exact sz1000' (by omega), xs ++ [.ref t], same_mut (s6.trans (same_upd htn)) hDE, upd_same, ?_⟩
    exact ((hx6.on (same_upd htn)).snoc (a := pr.1) (b := pr.2) upd_same).tp (tp_put hD7)
  obtain ⟨xsE, s6, hD6, hx6⟩ := hp2
  rw [List.length_map, List.take_of_length_le (Nat.le_refl _)] at hx6
  have hl := s6 _ _ lkE
  refine ⟨hl, ?_⟩
  have sY := unlock_same (hpX) s6
  have neE : DE ≠ p := fun e => by rw [e] at hD6; rw [hl] at hD6; cases hD6
  have hEE : upd H6 p (.dK ((ks).map ndK)) DE = some (.lst xsE) := by rw [upd_ne neE]; exact hD6
  have hPE : PrL (upd H6 p (.dK ((ks).map ndK))) xsE (ks) := hx6.tp (tp_unlock hl)
  generalize upd H6 p (.dK ((ks).map ndK)) = GY at sY hEE hPE
  clear hl hx6 hD6 s6
  walk_at "rds"
  refine ⟨DE, xsE, prK GY, rfl, sq hEE, hPE.mem, fun ysE BE hsE hbE hBE => ?_⟩
  obtain ⟨qsE, hqE, hpE, hwE⟩ := hPE.sorted hsE hbE
  have sE := same_upd (o := .lst ysE) hBE
  have hqE := hqE.on sE
  have hB10 : upd GY BE (.lst ysE) BE = some (.lst ysE) := upd_same
  have hBZ := sE _ _ (sY _ _ hBX)
  have hqZ := (hqX.on sY).on sE
  have sZ := (sX.trans sY).trans sE
  generalize upd GY BE (.lst ysE) = GZ at hqE hB10 hBZ hqZ sZ
  have eqs : qsE = qsA := pairs_eq (hpE.trans hpA.symm) hwE hwA
  subst eqs
  obtain ⟨sh2, ev2⟩ := prs_shaped qsE
  walk_at "rds"
  refine ⟨.list _, .list _, .lst (sq hB10) (DtAll.dp _ _ hqE.dt), .lst (sq hBZ) (DtAll.dp _ _ hqZ.dt), sh2, sh2, ?_⟩
  rw [ev2]
  exact q _ sZ
end

/-! ### slices and sums of tuples, as data -/
def cutD (ds : List PyData) (lo hi : Option Int) : List PyData := (ds.drop (HT.sIx ds.length 0 lo)).take (HT.sIx ds.length ds.length hi - HT.sIx ds.length 0 lo)
theorem DtAll.drop {K : PySem.W.Frag} {H : Hp} {A : Option Addr} : ∀ {xs : List V} {ds : List PyData} (n : Nat), DtAll K H A xs ds → DtAll K H A (xs.drop n) (ds.drop n)
  | _, _, 0, h => h
  | _, _, _ + 1, .nil => .nil
  | _, _, n + 1, .cons _ r => r.drop n
theorem DtAll.take {K : PySem.W.Frag} {H : Hp} {A : Option Addr} : ∀ {xs : List V} {ds : List PyData} (n : Nat), DtAll K H A xs ds → DtAll K H A (xs.take n) (ds.take n)
  | _, _, 0, _ => by rw [List.take_zero, List.take_zero]; exact .nil
  | _, _, _ + 1, .nil => .nil
  | _, _, n + 1, .cons h r => .cons h (r.take n)
theorem DtAll.app {K : PySem.W.Frag} {H : Hp} {A : Option Addr} : ∀ {xs ys : List V} {ds es : List PyData}, DtAll K H A xs ds → DtAll K H A ys es → DtAll K H A (xs ++ ys) (ds ++ es)
  | _, _, _, _, .nil, h => h
  | _, _, _, _, .cons h r, h2 => .cons h (r.app h2)
theorem sl_dt {K : PySem.W.Frag} {H : Hp} {b : Addr} {xs : List V} {ds : List PyData} {lo hi : Option Int} {Q : VK} (ha : TupAt K H b xs) (hx : DtAll K H none xs ds) (q : ∀ H' v, Same H H' → Dt K H' none v (.tuple (cutD ds lo hi)) → Q v H') : rSlA K (.ref b) lo hi H Q := by
  have hl := hx.length
  refine ⟨b, xs, rfl, ha.sq, fun hw => q _ _ (Same.refl H) ?_, fun _ p hp => q _ _ (same_upd hp) (.tup (.inl upd_same) ?_)⟩
  · have e : cutD ds lo hi = ds := by
      unfold cutD
      rw [← hl, hw.1, hw.2, List.drop_zero, Nat.sub_zero, hl, List.take_of_length_le (Nat.le_refl _)]
    rw [e]
    exact .tup ha hx
  · unfold cutV cutD
    rw [← hl]
    exact ((hx.drop _).take _).on (same_upd hp)
theorem cat_dt {K : PySem.W.Frag} {H : Hp} {v u : V} {ds es : List PyData} {Q : VK} (hv : Dt K H none v (.tuple ds)) (hu : Dt K H none u (.tuple es)) (hl : ds.length + es.length ≤ 100000) (q : ∀ H' v', Same H H' → Dt K H' none v' (.tuple (ds ++ es)) → Q v' H') : rCatA K v u H Q := by
  cases hv with
  | tup ha hx =>
    cases hu with
    | tup hb hy =>
      rename_i a xs b ys
      have l1 := hx.length
      have l2 := hy.length
      refine ⟨a, b, xs, ys, rfl, rfl, ha.sq, hb.sq, sz1000 (by omega), fun e => q _ _ (Same.refl H) ?_, fun _ e => q _ _ (Same.refl H) ?_, fun _ _ p hp => q _ _ (same_upd hp) (.tup (.inl upd_same) ((hx.app hy).on (same_upd hp)))⟩
      · rw [e] at l1
        rw [List.length_eq_zero_iff.mp l1.symm]
        exact .tup hb hy
      · rw [e] at l2
        rw [List.length_eq_zero_iff.mp l2.symm, List.append_nil]
        exact .tup ha hx
theorem cutD_take (ds : List PyData) (j : Nat) : cutD ds none (some (j : Int)) = ds.take j := by
  unfold cutD
  rw [HT.sIx_nat, HT.sIx_none, List.drop_zero, Nat.sub_zero]
  rcases Nat.le_total j ds.length with h | h
  · rw [Nat.min_eq_left h]
  · rw [Nat.min_eq_right h, List.take_of_length_le (Nat.le_refl _), List.take_of_length_le h]
theorem cutD_drop (ds : List PyData) (j : Nat) : cutD ds (some (j : Int)) none = ds.drop j := by
  unfold cutD
  rw [HT.sIx_nat, HT.sIx_none]
  rcases Nat.le_total j ds.length with h | h
  · rw [Nat.min_eq_left h, List.take_of_length_le (by rw [List.length_drop]; exact Nat.le_refl _)]
  · rw [Nat.min_eq_right h, Nat.sub_self, List.take_zero, List.drop_of_length_le h]

/-! ### the law -/
theorem dCmdsFrom_bad : ∀ (pre post : List PyData) (b : Option Int) (e : PyData), dCmd e = false → dCmdsFrom b (pre ++ e :: post) = false
  | [], _, b, e, h => by
    show dCmdsFrom b (e :: _) = false
    rw [dCmdsFrom_cons, h]; rfl
  | d :: r, post, b, e, h => by
    show dCmdsFrom b (d :: (r ++ e :: post)) = false
    rw [dCmdsFrom_cons, dCmdsFrom_bad r post _ e h, Bool.and_false]
theorem dCmdsFrom_twice : ∀ (pre post : List PyData) (b : Option Int) (e : PyData), dCmdsFrom b (pre ++ e :: e :: post) = false
  | [], post, b, e => by
    show dCmdsFrom b (e :: e :: post) = false
    rw [dCmdsFrom_cons, dCmdsFrom_cons]
    have : dAfter (some (dClient e)) e = false := decide_eq_false (by omega)
    rw [this, Bool.and_false, Bool.false_and, Bool.and_false]
  | d :: r, post, b, e => by
    show dCmdsFrom b (d :: (r ++ e :: e :: post)) = false
    rw [dCmdsFrom_cons, dCmdsFrom_twice r post _ e, Bool.and_false]
theorem dCmds_one {d : PyData} (h : dCmd d = true) : dCmds d = false := by
  obtain ⟨c, n, t, rfl, _⟩ := dCmd_inv h
  show dCmdsFrom none (.int c :: _) = false
  rw [dCmdsFrom_cons]; rfl
theorem tp_dk {H : Hp} {l : Addr} {kv kv' : List (Key × V)} (h : H l = some (.dK kv)) : Tp H (upd H l (.dK kv')) := fun a zs e => by
  rw [upd_ne (ne_of e h (by intro z; cases z))]; exact e
section
variable {P : Program} {w : World} {K : PySem.W.Frag} {mg : Str → Option Value} {base : Heap}
theorem ok_law {f : Addr} {fd : FuncData} (F : L2.Fun K "law" "law" s_law f fd) (T : Txt K mg) : FnOk P w K mg base L2.CX0 6 f fd ["script"] (spLaw K) := by
  have c__law_draws := c__law_draws (P := P) (w := w) (base := base) T
  have c__law_next := c__law_next (P := P) (w := w) (base := base) T
  have c__law_commands := c__law_commands (P := P) (w := w) (base := base) T
  have c__law_many := c__law_many (P := P) (w := w) (base := base) T
  have c__law_truth := c__law_truth (P := P) (w := w) (base := base) T
  have c__law_numbers := c__law_numbers (P := P) (w := w) (base := base) T
  have c__law_spoilt := c__law_spoilt (P := P) (w := w) (base := base) T
  have c_is_command := c_is_command (P := P) (w := w) (base := base) T none
  have c_is_command_list := c_is_command_list (P := P) (w := w) (base := base) T none
  refine F.ok sc_law (fun vs H Q E h => ?_) (fun cdv A' outer s H vs Q E hr h => ?_)
  · obtain ⟨a, ns, rfl, _⟩ := h; rfl
  obtain ⟨a, ns, rfl, hS, hlen, q⟩ := h
  refine ⟨_, (pss_cons (ps_set (i := 1) sc_law.nd rfl (Or.inl rfl) (pe_c c__law_draws hr (by decide) (by rfl) (pa_cons (pv 0) pa_nil)))
      (pss_cons (ps_set (i := 2) sc_law.nd rfl (Or.inl rfl) (pe_lst (pa_cons pe_int pa_nil)))
      (pss_cons (ps_for PassesOwn.never rfl (pi_range1 (by rfl) T.z_range (pa_cons pe_int pa_nil)) (pg_name (i := 3) sc_law.nd rfl (Or.inl rfl)) (pss_cons (ps_set (i := 4) sc_law.nd rfl (Or.inl rfl) (pe_c c__law_commands hr (by decide) (by rfl) (pa_cons (pv 1) (pa_cons (pv 2) (pa_cons pe_int pa_nil)))))
      (pss_cut (ps_if (pt_cmpR op_eq (pe_c c__law_next hr (by decide) (by rfl) (pa_cons (pv 1) (pa_cons (pv 2) (pa_cons pe_int pa_nil)))) pe_int (nomark _)) (pss_one (ps_set (i := 4) sc_law.nd rfl (Or.inl rfl) (pe_c c__law_many hr (by decide) (by rfl) (pa_cons (pv 1) (pa_cons (pv 2) pa_nil))))) pss_nil)
      (pss_cons (ps_if (pt_not (pt_val (pe_c c__law_truth hr (by decide) (by rfl) (pa_cons (pe_c c_is_command_list hr (by decide) (by rfl) (pa_cons (pv 4) pa_nil)) (pa_cons pe_bl pa_nil))))) (pss_one (ps_ret pe_bl)) pss_nil)
      (pss_cons (ps_set (i := 5) sc_law.nd rfl (Or.inl rfl) pe_dnewK)
      (pss_cons (ps_for PassesOwn.never rfl (pi_tup (pv 4)) (pg_name (i := 6) sc_law.nd rfl (Or.inl rfl)) (pss_cons (ps_if (pt_not (pt_val (pe_c c__law_truth hr (by decide) (by rfl) (pa_cons (pe_c c_is_command hr (by decide) (by rfl) (pa_cons (pv 6) pa_nil)) (pa_cons pe_bl pa_nil))))) (pss_one (ps_ret pe_bl)) pss_nil)
      (pss_one (ps_if (pt_cmpR op_eq (pe_c c__law_next hr (by decide) (by rfl) (pa_cons (pv 1) (pa_cons (pv 2) (pa_cons pe_int pa_nil)))) pe_int (nomark _)) (pss_one (ps_dput (hu_of hr) (pv 5) (pe_ix (kixt (K := K)) (pv 6) pe_int (fun _ _ => rfl)) (pe_callB (call_max2 rfl) (by rfl) T.z_max (by decide +kernel) (pa_cons pe_int (pa_cons (pe_op op_sub (pe_op op_add (pe_ix (kixt (K := K)) (pv 6) pe_int (fun _ _ => rfl)) (pe_c c__law_next hr (by decide) (by rfl) (pa_cons (pv 1) (pa_cons (pv 2) (pa_cons pe_int pa_nil))))) pe_int) pa_nil))) rfl)) pss_nil))))
      (pss_cons (ps_dput (hu_of hr) (pv 5) (pe_op op_sub (pe_un un_neg pe_int) (pe_c c__law_next hr (by decide) (by rfl) (pa_cons (pv 1) (pa_cons (pv 2) (pa_cons pe_int pa_nil))))) (pe_op op_add pe_int (pe_c c__law_next hr (by decide) (by rfl) (pa_cons (pv 1) (pa_cons (pv 2) (pa_cons pe_int pa_nil))))) rfl)
      (pss_cons (ps_if (pt_not (pt_val (pe_c c__law_numbers hr (by decide) (by rfl) (pa_cons (pv 5) (pa_cons (pv 4) pa_nil))))) (pss_one (ps_ret pe_bl)) pss_nil)
      (pss_one (ps_if (pt_cmpR op_gt (pe_callB (klen (K := K)) (by rfl) T.z_len (by decide +kernel) (pa_cons (pv 4) pa_nil)) pe_int (nomark _)) (pss_cons (ps_set (i := 7) sc_law.nd rfl (Or.inl rfl) (pe_c c__law_next hr (by decide) (by rfl) (pa_cons (pv 1) (pa_cons (pv 2) (pa_cons (pe_callB (klen (K := K)) (by rfl) T.z_len (by decide +kernel) (pa_cons (pv 4) pa_nil)) pa_nil)))))
      (pss_cons (ps_set (i := 8) sc_law.nd rfl (Or.inl rfl) (pe_c c__law_spoilt hr (by decide) (by rfl) (pa_cons (pe_ix (kixt (K := K)) (pv 4) (pv 7) (fun _ _ => rfl)) (pa_cons (pv 1) (pa_cons (pv 2) pa_nil)))))
      (pss_cons (ps_if (pt_not (pt_val (pe_c c__law_truth hr (by decide) (by rfl) (pa_cons (pe_c c_is_command hr (by decide) (by rfl) (pa_cons (pv 8) pa_nil)) (pa_cons pe_bl pa_nil))))) (pss_one (ps_ret pe_bl)) pss_nil)
      (pss_cons (ps_set (i := 9) sc_law.nd rfl (Or.inl rfl) (pe_op op_catA (pe_op op_catA (pe_slice sl_tupA (pv 4) po_none (po_some (pv 7))) (pe_tup (pa_cons (pv 8) pa_nil))) (pe_slice sl_tupA (pv 4) (po_some (pe_op op_add (pv 7) pe_int)) po_none)))
      (pss_cons (ps_set (i := 10) sc_law.nd rfl (Or.inl rfl) (pe_op op_catA (pe_slice sl_tupA (pv 4) po_none (po_some (pe_op op_add (pv 7) pe_int))) (pe_slice sl_tupA (pv 4) (po_some (pv 7)) po_none)))
      (pss_one (ps_for PassesOwn.never rfl (pi_list (pe_lst (pa_cons (pv 9) (pa_cons (pv 10) (pa_cons (pe_callTy call_list_of (by rfl) T.z_list (by decide +kernel) (pa_cons (pv 4) pa_nil)) (pa_cons (pe_ix (kixt (K := K)) (pv 4) (pv 7) (fun _ _ => rfl)) pa_nil)))))) (pg_name (i := 11) sc_law.nd rfl (Or.inl rfl)) (pss_one (ps_if (pt_not (pt_val (pe_c c__law_truth hr (by decide) (by rfl) (pa_cons (pe_c c_is_command_list hr (by decide) (by rfl) (pa_cons (pv 11) pa_nil)) (pa_cons pe_bl pa_nil))))) (pss_one (ps_ret pe_bl)) pss_nil))))))))) pss_nil))))))))))
      (pss_one (ps_ret pe_bl))))), ?_⟩
  walk_at "rds"
  refine ⟨a, ns, rfl, hS, hlen, fun H1 D ds s1 hD0 hD hrg hdl => ?_⟩
  walk_at "rds"
  intro A hA
  have dr0 : Dr (upd H1 A (.lst [.int 0])) D A := ⟨ne_of_none hD hA, ds, 0, (same_upd hA) _ _ hD, upd_same, hrg, hdl⟩
  generalize upd H1 A (.lst [.int 0]) = H2 at dr0
  walk_at "rds"
  refine for_it walk_range (Pv := fun _ σ' H' => ∃ y3 y4 y5 y6 y7 y8 y9 y10 y11, σ' = [some (.ref a), some (.ref D), some (.ref A), y3, y4, y5, y6, y7, y8, y9, y10, y11] ∧ Dr H' D A) ⟨none, none, none, none, none, none, none, none, none, rfl, dr0⟩ (fun _ _ _ _ _ => trivial) (fun i x σ' H3 H4 hi hp hy => ?_) (fun σ' H3 hp => ?_)
  · obtain ⟨y3, y4, y5, y6, y7, y8, y9, y10, y11, rfl, dr⟩ := hp
    obtain ⟨rfl, rfl⟩ := hy
    walk_at "rds"
    refine ⟨D, A, 9, rfl, dr, by decide, by decide, fun H5 x cs md5 dr5 hx hc hcl => ?_⟩
    walk_at "rds"
    refine ⟨fun σ' H' => ∃ x cs, σ' = [some (.ref a), some (.ref D), some (.ref A), some (.int (0 + (i : Int))), some x, y5, y6, y7, y8, y9, y10, y11] ∧ Dr H' D A ∧ Dt K H' none x (.tuple cs) ∧ dCmdsFrom none cs = true ∧ cs.length ≤ 100, ?_, ?_⟩
    · walk_at "rds"
      refine ⟨D, A, 9, rfl, dr5, by decide, fun H6 r r0 r1 md6 dr6 => ?_⟩
      walk_at "rds"
      refine ite2 (fun _ => ?_) (fun _ => ?_)
      · walk_at "rds"
        refine ⟨D, A, rfl, dr6, fun H7 x cs md7 dr7 hx hc hcl => ?_⟩
        exact ⟨x, cs, rfl, dr7, hx.an, hc, hcl⟩
      · exact ⟨x, cs, rfl, dr6, Dt.keep (md6.tp dr5) _ _ (show noL (.tuple cs) = true from dCmdsFrom_noL hc) hx, hc, hcl⟩
    rintro σ' H6 ⟨x, cs, rfl, dr, hx, hc, hcl⟩
    have hca := dCmdsFrom_all hc
    have hnl : noL (.tuple cs) = true := dCmdsFrom_noL hc
    walk_at "rds"
    refine ⟨x, .tuple cs, rfl, hx, fun H7 s7 => ?_⟩
    rw [show dCmds (.tuple cs) = true from hc]
    walk_at "rds"
    refine ⟨true, true, rfl, ?_⟩
    walk_at "rds"
    have dr := dr.same s7
    have hx := hx.on s7
    intro L hL
    have dr := dr.new (o := .dK []) hL
    have hx := hx.on (same_upd (o := .dK []) hL)
    have hL1 : upd H7 L (.dK []) L = some (.dK (([] : List (Int × Int)).map ndK)) := upd_same
    generalize upd H7 L (.dK []) = H8 at dr hx hL1
    obtain ⟨b, zs, rfl, hb, hz⟩ : ∃ b zs, x = .ref b ∧ TupAt K H8 b zs ∧ DtAll K H8 none zs cs := by
      cases hx with
      | tup hb hx => exact ⟨_, _, rfl, hb, hx⟩
    have hzl := hz.length
    walk_at "rds"
    refine ⟨⟨zs, hb.sq⟩, ?_⟩
    refine for_it (walk_tup (K := K) (a := b) (xs := zs)) (Pv := fun j σ' H' => ∃ ks y6, σ' = [some (.ref a), some (.ref D), some (.ref A), some (.int (0 + (i : Int))), some (.ref b), some (.ref L), y6, y7, y8, y9, y10, y11] ∧ Dr H' D A ∧ Tp H8 H' ∧ Nd H' L ks ∧ keysOk ks ∧ ks.length ≤ j) ⟨[], y6, rfl, dr, (fun _ _ h => h), hL1, List.nodup_nil, Nat.le_refl _⟩ (fun j σ H' _ h => by obtain ⟨_, _, _, _, tp, _⟩ := h; exact (hb.tp tp).sq) (fun j x σ' H9 H10 hj hp hy => ?_) (fun σ' H9 hp => ?_)
    · obtain ⟨ks, z6, rfl, dr, tp, hk, hko, hkl⟩ := hp
      obtain ⟨rfl, gx⟩ := hy
      obtain ⟨d, gd, hdx⟩ := hz.get gx
      have hdc := hca d (List.mem_of_getElem? gd)
      have hdn := dCmd_noL hdc
      have hdx := Dt.keep (B := none) tp _ _ hdn hdx
      walk_at "rds"
      refine ⟨x, d, rfl, hdx, fun H11 s11 => ?_⟩
      rw [hdc]
      walk_at "rds"
      refine ⟨true, true, rfl, ?_⟩
      walk_at "rds"
      have dr := dr.same s11
      have hdx := hdx.on s11
      have hk : Nd H11 L ks := s11 _ _ hk
      have tp : Tp H8 H11 := fun u us e => s11 _ _ (tp _ _ e)
      refine ⟨D, A, 3, rfl, dr, by decide, fun H12 r r0 r1 md12 dr12 => ?_⟩
      have nLA : L ≠ A := by
        obtain ⟨_, _, _, _, e, _⟩ := id dr
        exact ne_of hk e (by intro z; cases z)
      have hk : Nd H12 L ks := md12 _ _ nLA hk
      have tp : Tp H8 H12 := fun u us e => md12.tp dr _ _ (tp _ _ e)
      have hdx := Dt.keep (B := none) (md12.tp dr) _ _ hdn hdx
      walk_at "rds"
      refine ite2 (fun _ => ?_) (fun _ => ?_)
      · obtain ⟨aq, x3, rfl, haq⟩ := Dt.nums hdc hdx
        walk_at "rds"
        refine ⟨aq, _, 1, _, rfl, rfl, haq.sq, atI_nat (j := 1) rfl, ?_⟩
        walk_at "rds"
        refine ⟨D, A, 3, rfl, dr12, by decide, fun H13 r2 r20 r21 md13 dr13 => ?_⟩
        have hk : Nd H13 L ks := md13 _ _ nLA hk
        have tp : Tp H8 H13 := fun u us e => md13.tp dr12 _ _ (tp _ _ e)
        have haq := haq.tp (md13.tp dr12)
        walk_at "rds"
        refine ⟨_, _, rfl, ?_⟩
        walk_at "rds"
        refine ⟨aq, _, 0, _, rfl, rfl, haq.sq, atI_nat (j := 0) rfl, ?_⟩
        generalize (if dNum d + r2 - 1 > 1 then dNum d + r2 - 1 else 1) = mv
        have nLD : L ≠ D := by
          obtain ⟨_, _, _, e, _⟩ := id dr13
          exact ne_of hk e (by intro z; cases z)
        refine ⟨L, _, rfl, DPut.k (k := Sum.inl (dClient d)) hk (by rw [List.length_map]; exact sz1000' (by omega)), ?_⟩
        refine ⟨putN ks (dClient d) mv, _, rfl, dr13.put nLD nLA, fun u us e => tp_dk hk _ _ (tp _ _ e), ?_, putN_keys _ _ hko, by have := putN_len ks (dClient d) mv; omega⟩
        show upd _ L _ L = _
        rw [upd_same, ← nd_put]
      · exact ⟨ks, _, rfl, dr12, tp, hk, hko, by omega⟩
    obtain ⟨ks, z6, rfl, dr, tp, hk, hko, hkl⟩ := hp
    have nLA : L ≠ A := by
      obtain ⟨_, _, _, _, e, _⟩ := id dr
      exact ne_of hk e (by intro z; cases z)
    have nLD : L ≠ D := by
      obtain ⟨_, _, _, e, _⟩ := id dr
      exact ne_of hk e (by intro z; cases z)
    walk_at "rds"
    refine ⟨D, A, 9, rfl, dr, by decide, fun H10 r r0 r1 md10 dr10 => ?_⟩
    walk_at "rds"
    refine ⟨D, A, 100, rfl, dr10, by decide, fun H11 r2 r20 r21 md11 dr11 => ?_⟩
    have hk : Nd H11 L ks := md11 _ _ nLA (md10 _ _ nLA hk)
    have tp : Tp H8 H11 := fun u us e => md11.tp dr10 _ _ (md10.tp dr _ _ (tp _ _ e))
    walk_at "rds"
    refine ⟨L, _, rfl, DPut.k (k := Sum.inl (-1 - r2)) hk (by rw [List.length_map]; exact sz1000' (by omega)), ?_⟩
    have dr12 := dr11.put (o := .dK (putK (ks.map ndK) (Sum.inl (-1 - r2)) (.int (1 + r)))) nLD nLA
    have tp : Tp H8 (upd H11 L (.dK (putK (ks.map ndK) (Sum.inl (-1 - r2)) (.int (1 + r))))) := fun u us e => tp_dk hk _ _ (tp _ _ e)
    have hk12 : upd H11 L (.dK (putK (ks.map ndK) (Sum.inl (-1 - r2)) (.int (1 + r)))) L = some (.dK ((putN ks (-1 - r2) (1 + r)).map ndK)) := by rw [upd_same, ← nd_put]
    have hko := putN_keys (-1 - r2) (1 + r) hko
    have hkl2 := putN_len ks (-1 - r2) (1 + r)
    generalize upd H11 L (.dK (putK (ks.map ndK) (Sum.inl (-1 - r2)) (.int (1 + r)))) = H12 at dr12 tp hk12
    generalize putN ks (-1 - r2) (1 + r) = ks2 at hk12 hko hkl2
    have hx := Dt.keep (B := none) tp _ _ hnl hx
    walk_at "rds"
    refine ⟨L, .ref b, ks2, cs, rfl, hk12, hko, by omega, hx, hc, hcl, fun H13 s13 => ?_⟩
    have dr := dr12.same s13
    have hx := hx.on s13
    have hb := (hb.tp tp).same s13
    have hz := DtAll.on (DtAll.keep (B := none) tp _ _ (dCmdsFrom_noL hc) hz) s13
    walk_at "rds"
    refine ⟨b, zs, rfl, .inr hb.sq, ?_⟩
    walk_at "rds"
    refine ite2 (fun e => ?_) (fun e => ?_)
    · have e : (zs.length : Int) > 0 := of_decide_eq_true e
      walk_at "rds"
      refine ⟨b, zs, rfl, .inr hb.sq, ?_⟩
      refine ⟨D, A, zs.length, rfl, dr, by omega, fun H14 r3 r30 r31 md14 dr14 => ?_⟩
      obtain ⟨j, rfl⟩ := Int.eq_ofNat_of_zero_le r30
      have hj : j < zs.length := by omega
      have t14 := md14.tp dr
      have hb := hb.tp t14
      have hz := DtAll.keep (B := none) t14 _ _ (dCmdsFrom_noL hc) hz
      obtain ⟨d, gd, hdx⟩ := hz.get (List.getElem?_eq_getElem hj)
      have hdc := hca d (List.mem_of_getElem? gd)
      walk_at "rds"
      refine ⟨b, zs, (j : Int), _, rfl, rfl, hb.sq, atI_nat (List.getElem?_eq_getElem hj), ?_⟩
      walk_at "rds"
      refine ⟨_, D, A, d, rfl, dr14, Dt.keep (fun _ _ h => h) _ _ (dCmd_noL hdc) hdx, hdc, fun H15 wv ed md15 dr15 hw hwe => ?_⟩
      have t15 := md15.tp dr14
      have hb := hb.tp t15
      have hz := DtAll.keep (B := none) t15 _ _ (dCmdsFrom_noL hc) hz
      have hdx := Dt.keep (B := none) t15 _ _ (dCmd_noL hdc) hdx
      have hw := hw.an
      walk_at "rds"
      refine ⟨wv, ed, rfl, hw, fun H16 s16 => ?_⟩
      rw [hwe]
      have dr16 := dr15.same s16
      have hb := hb.same s16
      have hz := hz.on s16
      have hw := hw.on s16
      have hdx := hdx.on s16
      walk_at "rds"
      refine ⟨false, false, rfl, ?_⟩
      walk_at "rds"
      refine sl_dt hb hz fun H17 v1 s17 h1 => ?_
      rw [cutD_take] at h1
      have hb := hb.same s17
      have hz := hz.on s17
      have hw := hw.on s17
      have hdx := hdx.on s17
      walk_at "rds"
      intro t ht
      have s18 := same_upd (o := .tup [wv]) ht
      have hb := hb.same s18
      have hz := hz.on s18
      have hw := hw.on s18
      have hdx := hdx.on s18
      have h1 := h1.on s18
      have h2 : Dt K (upd H17 t (.tup [wv])) none (.ref t) (.tuple [ed]) := .tup (.inl upd_same) (.cons hw .nil)
      have dr18 := (dr16.same s17).same s18
      generalize upd H17 t (.tup [wv]) = H18 at hb hz hw hdx h1 h2 dr18
      clear s18
      refine cat_dt h1 h2 (by rw [List.length_take]; show _ + 1 ≤ 100000; omega) fun H19 v2 s19 h3 => ?_
      have hb := hb.same s19
      have hz := hz.on s19
      have hdx := hdx.on s19
      walk_at "rds"
      delta tNoPart
      refine sl_dt hb hz fun H20 v3 s20 h4 => ?_
      have h4 : Dt K H20 none v3 (.tuple (cs.drop (j + 1))) := by rw [← cutD_drop]; exact h4
      have hb := hb.same s20
      have hz := hz.on s20
      have hdx := hdx.on s20
      have h3 := h3.on s20
      refine cat_dt h3 h4 (by rw [List.length_append, List.length_take, List.length_drop]; show _ + 1 + _ ≤ 100000; omega) fun H21 v5 s21 h5 => ?_
      have hb := hb.same s21
      have hz := hz.on s21
      have hdx := hdx.on s21
      walk_at "rds"
      refine sl_dt hb hz fun H22 v6 s22 h6 => ?_
      have h6 : Dt K H22 none v6 (.tuple (cs.take (j + 1))) := by rw [← cutD_take]; exact h6
      have hb := hb.same s22
      have hz := hz.on s22
      have hdx := hdx.on s22
      have h5 := h5.on s22
      walk_at "rds"
      refine sl_dt hb hz fun H23 v7 s23 h7 => ?_
      rw [cutD_drop] at h7
      have hb := hb.same s23
      have hz := hz.on s23
      have hdx := hdx.on s23
      have h5 := h5.on s23
      have h6 := h6.on s23
      refine cat_dt h6 h7 (by rw [List.length_take, List.length_drop]; omega) fun H24 v8 s24 h8 => ?_
      have hb := hb.same s24
      have hz := hz.on s24
      have hdx := hdx.on s24
      have h5 := h5.on s24
      have dr24 := (((((dr18.same s19).same s20).same s21).same s22).same s23).same s24
      have bad1 : dCmds (.tuple (cs.take j ++ [ed] ++ cs.drop (j + 1))) = false := by
        show dCmdsFrom none (cs.take j ++ [ed] ++ cs.drop (j + 1)) = false
        rw [List.append_assoc]
        exact dCmdsFrom_bad _ _ _ _ hwe
      have bad2 : dCmds (.tuple (cs.take (j + 1) ++ cs.drop j)) = false := by
        obtain ⟨hlt, e2⟩ := List.getElem?_eq_some_iff.mp gd
        show dCmdsFrom none (cs.take (j + 1) ++ cs.drop j) = false
        rw [List.take_add_one, gd, List.drop_eq_getElem_cons hlt, e2]
        show dCmdsFrom none ((cs.take j ++ [d]) ++ (d :: cs.drop (j + 1))) = false
        rw [List.append_assoc]
        exact dCmdsFrom_twice _ _ _ _
      walk_at "rds"
      refine ⟨b, zs, rfl, .inr hb.sq, fun l hl => ?_⟩
      walk_at "rds"
      have s25 := same_upd (o := .lst zs) hl
      have h25 : Dt K (upd H24 l (.lst zs)) none (.ref l) (.list cs) := .lst trivial upd_same (hz.on s25)
      have hb := hb.same s25
      have hdx := hdx.on s25
      have h5 := h5.on s25
      have h8 := h8.on s25
      have dr25 := dr24.same s25
      generalize upd H24 l (.lst zs) = H25 at hb hdx h5 h8 h25 dr25
      clear s25
      refine ⟨b, zs, (j : Int), _, rfl, rfl, hb.sq, atI_nat (List.getElem?_eq_getElem hj), ?_⟩
      walk_at "rds"
      intro W hW
      have acc : DtAll K H25 none [v5, v8, .ref l, zs[j]] [.tuple (cs.take j ++ [ed] ++ cs.drop (j + 1)), .tuple (cs.take (j + 1) ++ cs.drop j), .list cs, d] := .cons h5 (.cons h8 (.cons h25 (.cons hdx .nil)))
      have acc := acc.on (same_upd (o := .lst [v5, v8, .ref l, zs[j]]) hW)
      have dr25 := dr25.same (same_upd (o := .lst [v5, v8, .ref l, zs[j]]) hW)
      have hbadv : ∀ dv ∈ [PyData.tuple (cs.take j ++ [ed] ++ cs.drop (j + 1)), .tuple (cs.take (j + 1) ++ cs.drop j), .list cs, d], dCmds dv = false := by
        intro dv m
        rcases List.mem_cons.mp m with rfl | m
        · exact bad1
        rcases List.mem_cons.mp m with rfl | m
        · exact bad2
        rcases List.mem_cons.mp m with rfl | m
        · rfl
        rcases List.mem_cons.mp m with rfl | m
        · exact dCmds_one hdc
        cases m
      refine ⟨W, rfl, ⟨_, sq upd_same⟩, ?_⟩
      refine for_it (walk_list (K := K) (a := W) (xs := [v5, v8, .ref l, zs[j]])) (Pv := fun _ σ H' => ∃ y11, σ = [some (.ref a), some (.ref D), some (.ref A), some (.int (0 + (i : Int))), some (.ref b), some (.ref L), z6, some (.int (j : Int)), some wv, some v5, some v8, y11] ∧ Same _ H') ⟨_, rfl, Same.refl _⟩ (fun i σ H' _ h => by obtain ⟨_, _, sm⟩ := h; exact sq (sm _ _ upd_same)) (fun i v σ H26 H27 hi hp hy => ?_) (fun σ H26 hp => ?_)
      · obtain ⟨z11, rfl, sm⟩ := hp
        obtain ⟨rfl, gx⟩ := hy
        obtain ⟨dv, gd, hv⟩ := acc.get gx
        walk_at "rds"
        refine ⟨_, _, rfl, hv.on sm, fun H28 s28 => ?_⟩
        rw [hbadv dv (List.mem_of_getElem? gd)]
        walk_at "rds"
        refine ⟨false, false, rfl, ?_⟩
        walk_at "rds"
        exact ⟨_, rfl, sm.trans s28⟩
      · obtain ⟨z11, rfl, sm⟩ := hp
        walk_at "rds"
        exact ⟨_, _, _, _, _, _, _, _, _, rfl, dr25.same sm⟩
    · exact ⟨_, _, _, _, _, _, _, _, _, rfl, dr⟩
  · obtain ⟨y3, y4, y5, y6, y7, y8, y9, y10, y11, rfl, dr⟩ := hp
    walk_at "rds"
    exact q _
end

theorem fin {P : Program} {w : World} {K : PySem.W.Frag} {mg : Str → Option Value} {fa : Addr} (hfa : mg "law" = some (.ref fa)) (T : Txt K mg) :
    ∃ fd : FuncData, (∀ (s : Shared) (u : Value), BindsTo s fd ⟨[u], []⟩ [("script", u)]) ∧ ∀ base : Heap, K.In base → base.Ns mainGlobals mg → FnOk P w K mg base L2.CX0 6 fa fd ["script"] (spLaw K) := by
  obtain ⟨f, fd, F, hm, b⟩ := T.d_law.ex
  cases hfa.symm.trans hm
  refine ⟨fd, fun s u => ?_, fun base _ _ => ok_law F T⟩
  obtain ⟨oc, od, kV, doc, pm, an, cdv, ct, osl, rfl, l, _⟩ := F.ex
  exact .of_eq rfl

theorem all_mk {K : PySem.W.Frag} {h : Heap} {mg : Str → Option Value} (X : K.In h) (G : h.Ns mainGlobals mg)
    {f_is_integer : Addr} {od_is_integer an_is_integer : Option Addr} {sl_is_integer : Array (Option Value)} {oc_is_integer kV_is_integer dc_is_integer pm_is_integer cd_is_integer ct_is_integer : Value}
    {f_is_printable : Addr} {od_is_printable an_is_printable : Option Addr} {sl_is_printable : Array (Option Value)} {oc_is_printable kV_is_printable dc_is_printable pm_is_printable cd_is_printable ct_is_printable : Value}
    {f_is_short : Addr} {od_is_short an_is_short : Option Addr} {sl_is_short : Array (Option Value)} {oc_is_short kV_is_short dc_is_short pm_is_short cd_is_short ct_is_short : Value}
    {f_is_client : Addr} {od_is_client an_is_client : Option Addr} {sl_is_client : Array (Option Value)} {oc_is_client kV_is_client dc_is_client pm_is_client cd_is_client ct_is_client : Value}
    {f_is_number : Addr} {od_is_number an_is_number : Option Addr} {sl_is_number : Array (Option Value)} {oc_is_number kV_is_number dc_is_number pm_is_number cd_is_number ct_is_number : Value}
    {f_is_command : Addr} {od_is_command an_is_command : Option Addr} {sl_is_command : Array (Option Value)} {oc_is_command kV_is_command dc_is_command pm_is_command cd_is_command ct_is_command : Value}
    {f_is_command_list : Addr} {od_is_command_list an_is_command_list : Option Addr} {sl_is_command_list : Array (Option Value)} {oc_is_command_list kV_is_command_list dc_is_command_list pm_is_command_list cd_is_command_list ct_is_command_list : Value}
    {f_last_number : Addr} {od_last_number an_last_number : Option Addr} {sl_last_number : Array (Option Value)} {oc_last_number kV_last_number dc_last_number pm_last_number cd_last_number ct_last_number : Value}
    {f_all_fresh : Addr} {od_all_fresh an_all_fresh : Option Addr} {sl_all_fresh : Array (Option Value)} {oc_all_fresh kV_all_fresh dc_all_fresh pm_all_fresh cd_all_fresh ct_all_fresh : Value}
    {f_numbers_after : Addr} {od_numbers_after an_numbers_after : Option Addr} {sl_numbers_after : Array (Option Value)} {oc_numbers_after kV_numbers_after dc_numbers_after pm_numbers_after cd_numbers_after ct_numbers_after : Value}
    {f__law_draws : Addr} {od__law_draws an__law_draws : Option Addr} {sl__law_draws : Array (Option Value)} {oc__law_draws kV__law_draws dc__law_draws pm__law_draws cd__law_draws ct__law_draws : Value}
    {f__law_next : Addr} {od__law_next an__law_next : Option Addr} {sl__law_next : Array (Option Value)} {oc__law_next kV__law_next dc__law_next pm__law_next cd__law_next ct__law_next : Value}
    {f__law_big : Addr} {od__law_big an__law_big : Option Addr} {sl__law_big : Array (Option Value)} {oc__law_big kV__law_big dc__law_big pm__law_big cd__law_big ct__law_big : Value}
    {f__law_char : Addr} {od__law_char an__law_char : Option Addr} {sl__law_char : Array (Option Value)} {oc__law_char kV__law_char dc__law_char pm__law_char cd__law_char ct__law_char : Value}
    {f__law_string : Addr} {od__law_string an__law_string : Option Addr} {sl__law_string : Array (Option Value)} {oc__law_string kV__law_string dc__law_string pm__law_string cd__law_string ct__law_string : Value}
    {f__law_command : Addr} {od__law_command an__law_command : Option Addr} {sl__law_command : Array (Option Value)} {oc__law_command kV__law_command dc__law_command pm__law_command cd__law_command ct__law_command : Value}
    {f__law_commands : Addr} {od__law_commands an__law_commands : Option Addr} {sl__law_commands : Array (Option Value)} {oc__law_commands kV__law_commands dc__law_commands pm__law_commands cd__law_commands ct__law_commands : Value}
    {f__law_truth : Addr} {od__law_truth an__law_truth : Option Addr} {sl__law_truth : Array (Option Value)} {oc__law_truth kV__law_truth dc__law_truth pm__law_truth cd__law_truth ct__law_truth : Value}
    {f__law_many : Addr} {od__law_many an__law_many : Option Addr} {sl__law_many : Array (Option Value)} {oc__law_many kV__law_many dc__law_many pm__law_many cd__law_many ct__law_many : Value}
    {f__law_spoilt : Addr} {od__law_spoilt an__law_spoilt : Option Addr} {sl__law_spoilt : Array (Option Value)} {oc__law_spoilt kV__law_spoilt dc__law_spoilt pm__law_spoilt cd__law_spoilt ct__law_spoilt : Value}
    {f__law_numbers : Addr} {od__law_numbers an__law_numbers : Option Addr} {sl__law_numbers : Array (Option Value)} {oc__law_numbers kV__law_numbers dc__law_numbers pm__law_numbers cd__law_numbers ct__law_numbers : Value}
    {f_law : Addr} {od_law an_law : Option Addr} {sl_law : Array (Option Value)} {oc_law kV_law dc_law pm_law cd_law ct_law : Value}
    {t_MOST_CLIENTS : Tok}
    {t_MOST_NUMBER : Tok}
    {t_MOST_TEXT : Tok}
    (a_is_integer : PySem.W.nsIn K mainGlobals "is_integer" = some (some (.ref f_is_integer)))
    (l_is_integer : K.lookup f_is_integer = some ⟨oc_is_integer, od_is_integer, .func (PySem.W.fnOf "is_integer" "is_integer" (defArgs s_is_integer) (defBody s_is_integer) (defScope s_is_integer) .none kV_is_integer dc_is_integer pm_is_integer an_is_integer cd_is_integer ct_is_integer), sl_is_integer⟩)
    (e_is_integer : PySem.W.codeIn K cd_is_integer "is_integer" = true)
    (k_is_integer : PySem.W.keepIn K (.ref f_is_integer) = true)
    (a_is_printable : PySem.W.nsIn K mainGlobals "is_printable" = some (some (.ref f_is_printable)))
    (l_is_printable : K.lookup f_is_printable = some ⟨oc_is_printable, od_is_printable, .func (PySem.W.fnOf "is_printable" "is_printable" (defArgs s_is_printable) (defBody s_is_printable) (defScope s_is_printable) .none kV_is_printable dc_is_printable pm_is_printable an_is_printable cd_is_printable ct_is_printable), sl_is_printable⟩)
    (e_is_printable : PySem.W.codeIn K cd_is_printable "is_printable" = true)
    (k_is_printable : PySem.W.keepIn K (.ref f_is_printable) = true)
    (a_is_short : PySem.W.nsIn K mainGlobals "is_short" = some (some (.ref f_is_short)))
    (l_is_short : K.lookup f_is_short = some ⟨oc_is_short, od_is_short, .func (PySem.W.fnOf "is_short" "is_short" (defArgs s_is_short) (defBody s_is_short) (defScope s_is_short) .none kV_is_short dc_is_short pm_is_short an_is_short cd_is_short ct_is_short), sl_is_short⟩)
    (e_is_short : PySem.W.codeIn K cd_is_short "is_short" = true)
    (k_is_short : PySem.W.keepIn K (.ref f_is_short) = true)
    (a_is_client : PySem.W.nsIn K mainGlobals "is_client" = some (some (.ref f_is_client)))
    (l_is_client : K.lookup f_is_client = some ⟨oc_is_client, od_is_client, .func (PySem.W.fnOf "is_client" "is_client" (defArgs s_is_client) (defBody s_is_client) (defScope s_is_client) .none kV_is_client dc_is_client pm_is_client an_is_client cd_is_client ct_is_client), sl_is_client⟩)
    (e_is_client : PySem.W.codeIn K cd_is_client "is_client" = true)
    (k_is_client : PySem.W.keepIn K (.ref f_is_client) = true)
    (a_is_number : PySem.W.nsIn K mainGlobals "is_number" = some (some (.ref f_is_number)))
    (l_is_number : K.lookup f_is_number = some ⟨oc_is_number, od_is_number, .func (PySem.W.fnOf "is_number" "is_number" (defArgs s_is_number) (defBody s_is_number) (defScope s_is_number) .none kV_is_number dc_is_number pm_is_number an_is_number cd_is_number ct_is_number), sl_is_number⟩)
    (e_is_number : PySem.W.codeIn K cd_is_number "is_number" = true)
    (k_is_number : PySem.W.keepIn K (.ref f_is_number) = true)
    (a_is_command : PySem.W.nsIn K mainGlobals "is_command" = some (some (.ref f_is_command)))
    (l_is_command : K.lookup f_is_command = some ⟨oc_is_command, od_is_command, .func (PySem.W.fnOf "is_command" "is_command" (defArgs s_is_command) (defBody s_is_command) (defScope s_is_command) .none kV_is_command dc_is_command pm_is_command an_is_command cd_is_command ct_is_command), sl_is_command⟩)
    (e_is_command : PySem.W.codeIn K cd_is_command "is_command" = true)
    (k_is_command : PySem.W.keepIn K (.ref f_is_command) = true)
    (a_is_command_list : PySem.W.nsIn K mainGlobals "is_command_list" = some (some (.ref f_is_command_list)))
    (l_is_command_list : K.lookup f_is_command_list = some ⟨oc_is_command_list, od_is_command_list, .func (PySem.W.fnOf "is_command_list" "is_command_list" (defArgs s_is_command_list) (defBody s_is_command_list) (defScope s_is_command_list) .none kV_is_command_list dc_is_command_list pm_is_command_list an_is_command_list cd_is_command_list ct_is_command_list), sl_is_command_list⟩)
    (e_is_command_list : PySem.W.codeIn K cd_is_command_list "is_command_list" = true)
    (k_is_command_list : PySem.W.keepIn K (.ref f_is_command_list) = true)
    (a_last_number : PySem.W.nsIn K mainGlobals "last_number" = some (some (.ref f_last_number)))
    (l_last_number : K.lookup f_last_number = some ⟨oc_last_number, od_last_number, .func (PySem.W.fnOf "last_number" "last_number" (defArgs s_last_number) (defBody s_last_number) (defScope s_last_number) .none kV_last_number dc_last_number pm_last_number an_last_number cd_last_number ct_last_number), sl_last_number⟩)
    (e_last_number : PySem.W.codeIn K cd_last_number "last_number" = true)
    (k_last_number : PySem.W.keepIn K (.ref f_last_number) = true)
    (a_all_fresh : PySem.W.nsIn K mainGlobals "all_fresh" = some (some (.ref f_all_fresh)))
    (l_all_fresh : K.lookup f_all_fresh = some ⟨oc_all_fresh, od_all_fresh, .func (PySem.W.fnOf "all_fresh" "all_fresh" (defArgs s_all_fresh) (defBody s_all_fresh) (defScope s_all_fresh) .none kV_all_fresh dc_all_fresh pm_all_fresh an_all_fresh cd_all_fresh ct_all_fresh), sl_all_fresh⟩)
    (e_all_fresh : PySem.W.codeIn K cd_all_fresh "all_fresh" = true)
    (k_all_fresh : PySem.W.keepIn K (.ref f_all_fresh) = true)
    (a_numbers_after : PySem.W.nsIn K mainGlobals "numbers_after" = some (some (.ref f_numbers_after)))
    (l_numbers_after : K.lookup f_numbers_after = some ⟨oc_numbers_after, od_numbers_after, .func (PySem.W.fnOf "numbers_after" "numbers_after" (defArgs s_numbers_after) (defBody s_numbers_after) (defScope s_numbers_after) .none kV_numbers_after dc_numbers_after pm_numbers_after an_numbers_after cd_numbers_after ct_numbers_after), sl_numbers_after⟩)
    (e_numbers_after : PySem.W.codeIn K cd_numbers_after "numbers_after" = true)
    (k_numbers_after : PySem.W.keepIn K (.ref f_numbers_after) = true)
    (a__law_draws : PySem.W.nsIn K mainGlobals "_law_draws" = some (some (.ref f__law_draws)))
    (l__law_draws : K.lookup f__law_draws = some ⟨oc__law_draws, od__law_draws, .func (PySem.W.fnOf "_law_draws" "_law_draws" (defArgs s__law_draws) (defBody s__law_draws) (defScope s__law_draws) .none kV__law_draws dc__law_draws pm__law_draws an__law_draws cd__law_draws ct__law_draws), sl__law_draws⟩)
    (e__law_draws : PySem.W.codeIn K cd__law_draws "_law_draws" = true)
    (k__law_draws : PySem.W.keepIn K (.ref f__law_draws) = true)
    (a__law_next : PySem.W.nsIn K mainGlobals "_law_next" = some (some (.ref f__law_next)))
    (l__law_next : K.lookup f__law_next = some ⟨oc__law_next, od__law_next, .func (PySem.W.fnOf "_law_next" "_law_next" (defArgs s__law_next) (defBody s__law_next) (defScope s__law_next) .none kV__law_next dc__law_next pm__law_next an__law_next cd__law_next ct__law_next), sl__law_next⟩)
    (e__law_next : PySem.W.codeIn K cd__law_next "_law_next" = true)
    (k__law_next : PySem.W.keepIn K (.ref f__law_next) = true)
    (a__law_big : PySem.W.nsIn K mainGlobals "_law_big" = some (some (.ref f__law_big)))
    (l__law_big : K.lookup f__law_big = some ⟨oc__law_big, od__law_big, .func (PySem.W.fnOf "_law_big" "_law_big" (defArgs s__law_big) (defBody s__law_big) (defScope s__law_big) .none kV__law_big dc__law_big pm__law_big an__law_big cd__law_big ct__law_big), sl__law_big⟩)
    (e__law_big : PySem.W.codeIn K cd__law_big "_law_big" = true)
    (k__law_big : PySem.W.keepIn K (.ref f__law_big) = true)
    (a__law_char : PySem.W.nsIn K mainGlobals "_law_char" = some (some (.ref f__law_char)))
    (l__law_char : K.lookup f__law_char = some ⟨oc__law_char, od__law_char, .func (PySem.W.fnOf "_law_char" "_law_char" (defArgs s__law_char) (defBody s__law_char) (defScope s__law_char) .none kV__law_char dc__law_char pm__law_char an__law_char cd__law_char ct__law_char), sl__law_char⟩)
    (e__law_char : PySem.W.codeIn K cd__law_char "_law_char" = true)
    (k__law_char : PySem.W.keepIn K (.ref f__law_char) = true)
    (a__law_string : PySem.W.nsIn K mainGlobals "_law_string" = some (some (.ref f__law_string)))
    (l__law_string : K.lookup f__law_string = some ⟨oc__law_string, od__law_string, .func (PySem.W.fnOf "_law_string" "_law_string" (defArgs s__law_string) (defBody s__law_string) (defScope s__law_string) .none kV__law_string dc__law_string pm__law_string an__law_string cd__law_string ct__law_string), sl__law_string⟩)
    (e__law_string : PySem.W.codeIn K cd__law_string "_law_string" = true)
    (k__law_string : PySem.W.keepIn K (.ref f__law_string) = true)
    (a__law_command : PySem.W.nsIn K mainGlobals "_law_command" = some (some (.ref f__law_command)))
    (l__law_command : K.lookup f__law_command = some ⟨oc__law_command, od__law_command, .func (PySem.W.fnOf "_law_command" "_law_command" (defArgs s__law_command) (defBody s__law_command) (defScope s__law_command) .none kV__law_command dc__law_command pm__law_command an__law_command cd__law_command ct__law_command), sl__law_command⟩)
    (e__law_command : PySem.W.codeIn K cd__law_command "_law_command" = true)
    (k__law_command : PySem.W.keepIn K (.ref f__law_command) = true)
    (a__law_commands : PySem.W.nsIn K mainGlobals "_law_commands" = some (some (.ref f__law_commands)))
    (l__law_commands : K.lookup f__law_commands = some ⟨oc__law_commands, od__law_commands, .func (PySem.W.fnOf "_law_commands" "_law_commands" (defArgs s__law_commands) (defBody s__law_commands) (defScope s__law_commands) .none kV__law_commands dc__law_commands pm__law_commands an__law_commands cd__law_commands ct__law_commands), sl__law_commands⟩)
    (e__law_commands : PySem.W.codeIn K cd__law_commands "_law_commands" = true)
    (k__law_commands : PySem.W.keepIn K (.ref f__law_commands) = true)
    (a__law_truth : PySem.W.nsIn K mainGlobals "_law_truth" = some (some (.ref f__law_truth)))
    (l__law_truth : K.lookup f__law_truth = some ⟨oc__law_truth, od__law_truth, .func (PySem.W.fnOf "_law_truth" "_law_truth" (defArgs s__law_truth) (defBody s__law_truth) (defScope s__law_truth) .none kV__law_truth dc__law_truth pm__law_truth an__law_truth cd__law_truth ct__law_truth), sl__law_truth⟩)
    (e__law_truth : PySem.W.codeIn K cd__law_truth "_law_truth" = true)
    (k__law_truth : PySem.W.keepIn K (.ref f__law_truth) = true)
    (a__law_many : PySem.W.nsIn K mainGlobals "_law_many" = some (some (.ref f__law_many)))
    (l__law_many : K.lookup f__law_many = some ⟨oc__law_many, od__law_many, .func (PySem.W.fnOf "_law_many" "_law_many" (defArgs s__law_many) (defBody s__law_many) (defScope s__law_many) .none kV__law_many dc__law_many pm__law_many an__law_many cd__law_many ct__law_many), sl__law_many⟩)
    (e__law_many : PySem.W.codeIn K cd__law_many "_law_many" = true)
    (k__law_many : PySem.W.keepIn K (.ref f__law_many) = true)
    (a__law_spoilt : PySem.W.nsIn K mainGlobals "_law_spoilt" = some (some (.ref f__law_spoilt)))
    (l__law_spoilt : K.lookup f__law_spoilt = some ⟨oc__law_spoilt, od__law_spoilt, .func (PySem.W.fnOf "_law_spoilt" "_law_spoilt" (defArgs s__law_spoilt) (defBody s__law_spoilt) (defScope s__law_spoilt) .none kV__law_spoilt dc__law_spoilt pm__law_spoilt an__law_spoilt cd__law_spoilt ct__law_spoilt), sl__law_spoilt⟩)
    (e__law_spoilt : PySem.W.codeIn K cd__law_spoilt "_law_spoilt" = true)
    (k__law_spoilt : PySem.W.keepIn K (.ref f__law_spoilt) = true)
    (a__law_numbers : PySem.W.nsIn K mainGlobals "_law_numbers" = some (some (.ref f__law_numbers)))
    (l__law_numbers : K.lookup f__law_numbers = some ⟨oc__law_numbers, od__law_numbers, .func (PySem.W.fnOf "_law_numbers" "_law_numbers" (defArgs s__law_numbers) (defBody s__law_numbers) (defScope s__law_numbers) .none kV__law_numbers dc__law_numbers pm__law_numbers an__law_numbers cd__law_numbers ct__law_numbers), sl__law_numbers⟩)
    (e__law_numbers : PySem.W.codeIn K cd__law_numbers "_law_numbers" = true)
    (k__law_numbers : PySem.W.keepIn K (.ref f__law_numbers) = true)
    (a_law : PySem.W.nsIn K mainGlobals "law" = some (some (.ref f_law)))
    (l_law : K.lookup f_law = some ⟨oc_law, od_law, .func (PySem.W.fnOf "law" "law" (defArgs s_law) (defBody s_law) (defScope s_law) .none kV_law dc_law pm_law an_law cd_law ct_law), sl_law⟩)
    (e_law : PySem.W.codeIn K cd_law "law" = true)
    (k_law : PySem.W.keepIn K (.ref f_law) = true)
    (a_MOST_CLIENTS : PySem.W.nsIn K mainGlobals "MOST_CLIENTS" = some (some (.int 100 t_MOST_CLIENTS)))
    (a_MOST_NUMBER : PySem.W.nsIn K mainGlobals "MOST_NUMBER" = some (some (.int 1000000000000 t_MOST_NUMBER)))
    (a_MOST_TEXT : PySem.W.nsIn K mainGlobals "MOST_TEXT" = some (some (.int 240 t_MOST_TEXT)))
    (z_abs : PySem.W.nsIn K mainGlobals "abs" = some none)
    (z_bool : PySem.W.nsIn K mainGlobals "bool" = some none)
    (z_dict : PySem.W.nsIn K mainGlobals "dict" = some none)
    (z_int : PySem.W.nsIn K mainGlobals "int" = some none)
    (z_isinstance : PySem.W.nsIn K mainGlobals "isinstance" = some none)
    (z_len : PySem.W.nsIn K mainGlobals "len" = some none)
    (z_list : PySem.W.nsIn K mainGlobals "list" = some none)
    (z_max : PySem.W.nsIn K mainGlobals "max" = some none)
    (z_range : PySem.W.nsIn K mainGlobals "range" = some none)
    (z_sorted : PySem.W.nsIn K mainGlobals "sorted" = some none)
    (z_str : PySem.W.nsIn K mainGlobals "str" = some none)
    (z_tuple : PySem.W.nsIn K mainGlobals "tuple" = some none) : Txt K mg :=
  { d_is_integer := ⟨_, _, (fun_mk l_is_integer e_is_integer k_is_integer), PySem.W.mg_of X G a_is_integer, ((fun_mk (st := s_is_integer) l_is_integer e_is_integer k_is_integer).binds (ps := ["value", "least", "greatest"]) fun _ _ _ _ _ _ us hl => match us, hl with | [_, _, _], _ => rfl)⟩,
    d_is_printable := ⟨_, _, (fun_mk l_is_printable e_is_printable k_is_printable), PySem.W.mg_of X G a_is_printable, ((fun_mk (st := s_is_printable) l_is_printable e_is_printable k_is_printable).binds (ps := ["value"]) fun _ _ _ _ _ _ us hl => match us, hl with | [_], _ => rfl)⟩,
    d_is_short := ⟨_, _, (fun_mk l_is_short e_is_short k_is_short), PySem.W.mg_of X G a_is_short, ((fun_mk (st := s_is_short) l_is_short e_is_short k_is_short).binds (ps := ["value", "most"]) fun _ _ _ _ _ _ us hl => match us, hl with | [_, _], _ => rfl)⟩,
    d_is_client := ⟨_, _, (fun_mk l_is_client e_is_client k_is_client), PySem.W.mg_of X G a_is_client, ((fun_mk (st := s_is_client) l_is_client e_is_client k_is_client).binds (ps := ["value"]) fun _ _ _ _ _ _ us hl => match us, hl with | [_], _ => rfl)⟩,
    d_is_number := ⟨_, _, (fun_mk l_is_number e_is_number k_is_number), PySem.W.mg_of X G a_is_number, ((fun_mk (st := s_is_number) l_is_number e_is_number k_is_number).binds (ps := ["value"]) fun _ _ _ _ _ _ us hl => match us, hl with | [_], _ => rfl)⟩,
    d_is_command := ⟨_, _, (fun_mk l_is_command e_is_command k_is_command), PySem.W.mg_of X G a_is_command, ((fun_mk (st := s_is_command) l_is_command e_is_command k_is_command).binds (ps := ["value"]) fun _ _ _ _ _ _ us hl => match us, hl with | [_], _ => rfl)⟩,
    d_is_command_list := ⟨_, _, (fun_mk l_is_command_list e_is_command_list k_is_command_list), PySem.W.mg_of X G a_is_command_list, ((fun_mk (st := s_is_command_list) l_is_command_list e_is_command_list k_is_command_list).binds (ps := ["value"]) fun _ _ _ _ _ _ us hl => match us, hl with | [_], _ => rfl)⟩,
    d_last_number := ⟨_, _, (fun_mk l_last_number e_last_number k_last_number), PySem.W.mg_of X G a_last_number, ((fun_mk (st := s_last_number) l_last_number e_last_number k_last_number).binds (ps := ["last", "client"]) fun _ _ _ _ _ _ us hl => match us, hl with | [_, _], _ => rfl)⟩,
    d_all_fresh := ⟨_, _, (fun_mk l_all_fresh e_all_fresh k_all_fresh), PySem.W.mg_of X G a_all_fresh, ((fun_mk (st := s_all_fresh) l_all_fresh e_all_fresh k_all_fresh).binds (ps := ["last", "commands"]) fun _ _ _ _ _ _ us hl => match us, hl with | [_, _], _ => rfl)⟩,
    d_numbers_after := ⟨_, _, (fun_mk l_numbers_after e_numbers_after k_numbers_after), PySem.W.mg_of X G a_numbers_after, ((fun_mk (st := s_numbers_after) l_numbers_after e_numbers_after k_numbers_after).binds (ps := ["last", "commands"]) fun _ _ _ _ _ _ us hl => match us, hl with | [_, _], _ => rfl)⟩,
    d__law_draws := ⟨_, _, (fun_mk l__law_draws e__law_draws k__law_draws), PySem.W.mg_of X G a__law_draws, ((fun_mk (st := s__law_draws) l__law_draws e__law_draws k__law_draws).binds (ps := ["script"]) fun _ _ _ _ _ _ us hl => match us, hl with | [_], _ => rfl)⟩,
    d__law_next := ⟨_, _, (fun_mk l__law_next e__law_next k__law_next), PySem.W.mg_of X G a__law_next, ((fun_mk (st := s__law_next) l__law_next e__law_next k__law_next).binds (ps := ["draws", "at", "many"]) fun _ _ _ _ _ _ us hl => match us, hl with | [_, _, _], _ => rfl)⟩,
    d__law_big := ⟨_, _, (fun_mk l__law_big e__law_big k__law_big), PySem.W.mg_of X G a__law_big, ((fun_mk (st := s__law_big) l__law_big e__law_big k__law_big).binds (ps := ["draws", "at", "many"]) fun _ _ _ _ _ _ us hl => match us, hl with | [_, _, _], _ => rfl)⟩,
    d__law_char := ⟨_, _, (fun_mk l__law_char e__law_char k__law_char), PySem.W.mg_of X G a__law_char, ((fun_mk (st := s__law_char) l__law_char e__law_char k__law_char).binds (ps := ["number"]) fun _ _ _ _ _ _ us hl => match us, hl with | [_], _ => rfl)⟩,
    d__law_string := ⟨_, _, (fun_mk l__law_string e__law_string k__law_string), PySem.W.mg_of X G a__law_string, ((fun_mk (st := s__law_string) l__law_string e__law_string k__law_string).binds (ps := ["draws", "at", "most"]) fun _ _ _ _ _ _ us hl => match us, hl with | [_, _, _], _ => rfl)⟩,
    d__law_command := ⟨_, _, (fun_mk l__law_command e__law_command k__law_command), PySem.W.mg_of X G a__law_command, ((fun_mk (st := s__law_command) l__law_command e__law_command k__law_command).binds (ps := ["draws", "at", "client"]) fun _ _ _ _ _ _ us hl => match us, hl with | [_, _, _], _ => rfl)⟩,
    d__law_commands := ⟨_, _, (fun_mk l__law_commands e__law_commands k__law_commands), PySem.W.mg_of X G a__law_commands, ((fun_mk (st := s__law_commands) l__law_commands e__law_commands k__law_commands).binds (ps := ["draws", "at", "most"]) fun _ _ _ _ _ _ us hl => match us, hl with | [_, _, _], _ => rfl)⟩,
    d__law_truth := ⟨_, _, (fun_mk l__law_truth e__law_truth k__law_truth), PySem.W.mg_of X G a__law_truth, ((fun_mk (st := s__law_truth) l__law_truth e__law_truth k__law_truth).binds (ps := ["actual", "expected"]) fun _ _ _ _ _ _ us hl => match us, hl with | [_, _], _ => rfl)⟩,
    d__law_many := ⟨_, _, (fun_mk l__law_many e__law_many k__law_many), PySem.W.mg_of X G a__law_many, ((fun_mk (st := s__law_many) l__law_many e__law_many k__law_many).binds (ps := ["draws", "at"]) fun _ _ _ _ _ _ us hl => match us, hl with | [_, _], _ => rfl)⟩,
    d__law_spoilt := ⟨_, _, (fun_mk l__law_spoilt e__law_spoilt k__law_spoilt), PySem.W.mg_of X G a__law_spoilt, ((fun_mk (st := s__law_spoilt) l__law_spoilt e__law_spoilt k__law_spoilt).binds (ps := ["command", "draws", "at"]) fun _ _ _ _ _ _ us hl => match us, hl with | [_, _, _], _ => rfl)⟩,
    d__law_numbers := ⟨_, _, (fun_mk l__law_numbers e__law_numbers k__law_numbers), PySem.W.mg_of X G a__law_numbers, ((fun_mk (st := s__law_numbers) l__law_numbers e__law_numbers k__law_numbers).binds (ps := ["last", "commands"]) fun _ _ _ _ _ _ us hl => match us, hl with | [_, _], _ => rfl)⟩,
    d_law := ⟨_, _, (fun_mk l_law e_law k_law), PySem.W.mg_of X G a_law, ((fun_mk (st := s_law) l_law e_law k_law).binds (ps := ["script"]) fun _ _ _ _ _ _ us hl => match us, hl with | [_], _ => rfl)⟩,
    c_MOST_CLIENTS := ⟨_, PySem.W.mg_of X G a_MOST_CLIENTS, _, rfl⟩,
    c_MOST_NUMBER := ⟨_, PySem.W.mg_of X G a_MOST_NUMBER, _, rfl⟩,
    c_MOST_TEXT := ⟨_, PySem.W.mg_of X G a_MOST_TEXT, _, rfl⟩,
    z_abs := PySem.W.mg_none_of X G z_abs,
    z_bool := PySem.W.mg_none_of X G z_bool,
    z_dict := PySem.W.mg_none_of X G z_dict,
    z_int := PySem.W.mg_none_of X G z_int,
    z_isinstance := PySem.W.mg_none_of X G z_isinstance,
    z_len := PySem.W.mg_none_of X G z_len,
    z_list := PySem.W.mg_none_of X G z_list,
    z_max := PySem.W.mg_none_of X G z_max,
    z_range := PySem.W.mg_none_of X G z_range,
    z_sorted := PySem.W.mg_none_of X G z_sorted,
    z_str := PySem.W.mg_none_of X G z_str,
    z_tuple := PySem.W.mg_none_of X G z_tuple }
end Law
open PySem PySem.W PyProof.Rows
set_option maxRecDepth 100000 in
set_option maxHeartbeats 0 in
theorem PySem.Challenge.cw_oathledger_k08_requests_holds : PySem.Challenge.rw_oathledger_k08_requests.Holds := by
  w_on; o_law; k_head; (case hw => w_witness2)
  k_fill
  refine L2.walk_of (l := PySem.Challenge.rw_oathledger_k08_requests) (n := 63) (k := 6) (x := "script") (CX := fun _ => L2.CX0) (sp := fun w => Law.spLaw _) rfl (by decide) rfl ⟨rfl, by decide, by decide⟩ (fun w h Y => PySem.W.kIn_of Y) ?F (fun _ _ a ns hl _ hS => ⟨a, ns, rfl, hS, hl, fun _ => rfl⟩) (fun _ _ _ _ _ h => h)
  case F =>
    intro w mg fa h KX G hmg
    refine' Law.fin hmg (Law.all_mk KX G ?a_is_integer ?l_is_integer ?e_is_integer ?k_is_integer ?a_is_printable ?l_is_printable ?e_is_printable ?k_is_printable ?a_is_short ?l_is_short ?e_is_short ?k_is_short ?a_is_client ?l_is_client ?e_is_client ?k_is_client ?a_is_number ?l_is_number ?e_is_number ?k_is_number ?a_is_command ?l_is_command ?e_is_command ?k_is_command ?a_is_command_list ?l_is_command_list ?e_is_command_list ?k_is_command_list ?a_last_number ?l_last_number ?e_last_number ?k_last_number ?a_all_fresh ?l_all_fresh ?e_all_fresh ?k_all_fresh ?a_numbers_after ?l_numbers_after ?e_numbers_after ?k_numbers_after ?a__law_draws ?l__law_draws ?e__law_draws ?k__law_draws ?a__law_next ?l__law_next ?e__law_next ?k__law_next ?a__law_big ?l__law_big ?e__law_big ?k__law_big ?a__law_char ?l__law_char ?e__law_char ?k__law_char ?a__law_string ?l__law_string ?e__law_string ?k__law_string ?a__law_command ?l__law_command ?e__law_command ?k__law_command ?a__law_commands ?l__law_commands ?e__law_commands ?k__law_commands ?a__law_truth ?l__law_truth ?e__law_truth ?k__law_truth ?a__law_many ?l__law_many ?e__law_many ?k__law_many ?a__law_spoilt ?l__law_spoilt ?e__law_spoilt ?k__law_spoilt ?a__law_numbers ?l__law_numbers ?e__law_numbers ?k__law_numbers ?a_law ?l_law ?e_law ?k_law ?a_MOST_CLIENTS ?a_MOST_NUMBER ?a_MOST_TEXT ?z_abs ?z_bool ?z_dict ?z_int ?z_isinstance ?z_len ?z_list ?z_max ?z_range ?z_sorted ?z_str ?z_tuple)
    (case a_is_integer => k_is)
    (case l_is_integer => k_is)
    (case e_is_integer => k_is)
    (case k_is_integer => k_is)
    (case a_is_printable => k_is)
    (case l_is_printable => k_is)
    (case e_is_printable => k_is)
    (case k_is_printable => k_is)
    (case a_is_short => k_is)
    (case l_is_short => k_is)
    (case e_is_short => k_is)
    (case k_is_short => k_is)
    (case a_is_client => k_is)
    (case l_is_client => k_is)
    (case e_is_client => k_is)
    (case k_is_client => k_is)
    (case a_is_number => k_is)
    (case l_is_number => k_is)
    (case e_is_number => k_is)
    (case k_is_number => k_is)
    (case a_is_command => k_is)
    (case l_is_command => k_is)
    (case e_is_command => k_is)
    (case k_is_command => k_is)
    (case a_is_command_list => k_is)
    (case l_is_command_list => k_is)
    (case e_is_command_list => k_is)
    (case k_is_command_list => k_is)
    (case a_last_number => k_is)
    (case l_last_number => k_is)
    (case e_last_number => k_is)
    (case k_last_number => k_is)
    (case a_all_fresh => k_is)
    (case l_all_fresh => k_is)
    (case e_all_fresh => k_is)
    (case k_all_fresh => k_is)
    (case a_numbers_after => k_is)
    (case l_numbers_after => k_is)
    (case e_numbers_after => k_is)
    (case k_numbers_after => k_is)
    (case a__law_draws => k_is)
    (case l__law_draws => k_is)
    (case e__law_draws => k_is)
    (case k__law_draws => k_is)
    (case a__law_next => k_is)
    (case l__law_next => k_is)
    (case e__law_next => k_is)
    (case k__law_next => k_is)
    (case a__law_big => k_is)
    (case l__law_big => k_is)
    (case e__law_big => k_is)
    (case k__law_big => k_is)
    (case a__law_char => k_is)
    (case l__law_char => k_is)
    (case e__law_char => k_is)
    (case k__law_char => k_is)
    (case a__law_string => k_is)
    (case l__law_string => k_is)
    (case e__law_string => k_is)
    (case k__law_string => k_is)
    (case a__law_command => k_is)
    (case l__law_command => k_is)
    (case e__law_command => k_is)
    (case k__law_command => k_is)
    (case a__law_commands => k_is)
    (case l__law_commands => k_is)
    (case e__law_commands => k_is)
    (case k__law_commands => k_is)
    (case a__law_truth => k_is)
    (case l__law_truth => k_is)
    (case e__law_truth => k_is)
    (case k__law_truth => k_is)
    (case a__law_many => k_is)
    (case l__law_many => k_is)
    (case e__law_many => k_is)
    (case k__law_many => k_is)
    (case a__law_spoilt => k_is)
    (case l__law_spoilt => k_is)
    (case e__law_spoilt => k_is)
    (case k__law_spoilt => k_is)
    (case a__law_numbers => k_is)
    (case l__law_numbers => k_is)
    (case e__law_numbers => k_is)
    (case k__law_numbers => k_is)
    (case a_law => k_is)
    (case l_law => k_is)
    (case e_law => k_is)
    (case k_law => k_is)
    (case a_MOST_CLIENTS => k_is)
    (case a_MOST_NUMBER => k_is)
    (case a_MOST_TEXT => k_is)
    (case z_abs => k_is)
    (case z_bool => k_is)
    (case z_dict => k_is)
    (case z_int => k_is)
    (case z_isinstance => k_is)
    (case z_len => k_is)
    (case z_list => k_is)
    (case z_max => k_is)
    (case z_range => k_is)
    (case z_sorted => k_is)
    (case z_str => k_is)
    (case z_tuple => k_is)

