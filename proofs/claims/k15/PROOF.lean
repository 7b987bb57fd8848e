import PyProof.Rows.All
import Wide.All
import OpenK.AllK
import Wide.FinOn
import HandS.ForMost
import HandS.Walk
import HandS.Flow
import HandS.Codes
import HandS.IsInst
import HandS.Conv
import HandS.StrMore
import PyProof.MeetsSeq2
import PyProof.DictTable
import HandS.Wide
import HandS.TupAny
import HandS.More
import HandS.Dict
import HandS.ForExc
import HandS.ExcIs
import HandS.ExcField
import HandS.DeepEq
import HandS.TupLe
import HandS.Steps
import HandS.ExcInit
import HandS.SortRule
import HandS.RaiseMore
import HandS.Zip
import PySem.Challenge.RW_oathledger_k15_cut_texts
set_option Elab.async false
set_option linter.all false
set_option maxRecDepth 100000
set_option maxHeartbeats 4000000
namespace Law
open PySem PySem.Spec PyProof.Rows L2
open C8 (Cal Met Mak pe_c pe_mk pe_mt pe_mt0 pe_gc pss_cut tCut)
/-! ### a def of the top, by its name -/
structure DefOk (K : PySem.W.Frag) (mg : Str → Option Value) (x : Str) (st : Stmt) (ps : List Str) : Prop where
  ex : ∃ (f : Addr) (fd : FuncData), L2.Fun K x x st f fd ∧ mg x = some (.ref f) ∧ Binds K fd ps []
section
variable {P : Program} {w : World} {K : PySem.W.Frag} {mg : Str → Option Value} {base : Heap}
/-- a def's promise, by its body -/
theorem cal {x : Str} {st : Stmt} {N ps : List Str} {k : Nat} {sp : Sp} (D : DefOk K mg x st ps) (S : FnScope N ps (defScope st)) (len : ∀ vs H Q E, sp vs H Q E → vs.length = ps.length)
    (hbody : ∀ (f : Addr) (cdv : Value) (A : Around) (outer : List Env) (s : Shared) (H : Hp) (vs : List V) (Q : VK) (E : XK), Room k (A.deeper (envOfC x (defScope st) s.heap.objs.size f cdv)) → sp vs H Q E →
      ∃ t, PSs (cxOf L2.CX0 P w K mg base N x (defScope st) f cdv A outer s H E).nox (defBody st) t ∧ t { nx := fun _ H' => Q .non H', rt := Q } (start N vs) H) : Cal P w K mg base (k + 1) x sp [] := by
  obtain ⟨f, fd, F, hm, b⟩ := D.ex
  exact ⟨f, fd, ps, [], F.ok S len (fun cdv A outer s H vs Q E hr h => hbody f cdv A outer s H vs Q E hr h), hm, F.kp, b, .nil⟩
/-- a call without arguments -/
theorem pe_c0 {X : Cx} {k j : Nat} {x : Str} {sp : Sp} {dvs : List V} {p pos : Pos} (c : Cal X.prog X.w X.K X.mg X.base k x sp dvs) (hr : Room j X.A) (hk : k ≤ j) (hg : Gl X x)
    (hdb : (x == ("__debug__" : Str)) = false := by decide) : PE X (.Call (.Name x p) [] [] pos) (tCall sp dvs L2.E0 tNil) := by
  obtain ⟨f, fd, ps, ds, F, hm, kp, b, d⟩ := c.ex
  exact pe_call0 F (hr.mono hk) hg hm kp b d pass0 hdb
end
/-! ### small things -/
theorem same_upd {H : Hp} {p : Addr} {o : HO} (h : H p = none) : Same H (upd H p o) := fun b x e => by
  rw [upd_ne (ne_of_none e h)]
  exact e
theorem same_mut {H H' : Hp} {p : Addr} {o : HO} (s : Same H H') (h : H p = none) : Same H (upd H' p o) := fun b x e => by
  rw [upd_ne (ne_of_none e h)]
  exact s b x e
theorem sz1000 {n : Nat} (h : n ≤ 100000) : n ≤ sizeLine := Nat.le_trans h (by decide)
theorem sz1000' {n : Nat} (h : n < 100000) : n < sizeLine := Nat.lt_of_lt_of_le h (by decide)
theorem sz1000'' {n : Nat} (h : n ≤ 16777216) : n ≤ sizeLine := by rw [sizeLine_eq]; exact h
theorem sq {K : PySem.W.Frag} {H : Hp} {a : Addr} {xs : List V} (h : H a = some (.lst xs)) : SqL K H a xs := .inl (.inl h)
def spLaw (K : PySem.W.Frag) : Sp := fun vs H Q _ => ∃ (a : Addr) (ns : List Int), vs = [.ref a] ∧ SqL K H a (ns.map V.int) ∧ ns.length ≤ 63 ∧ ∀ H', Q (.bl true) H'
/-! ### the reading, step by step -/
local macro_rules | `(tactic| walk_at "sd") => `(tactic| first
  | omega
  | decide
  | assumption
  | (show _ ∨ _; exact Or.inl ⟨by omega, by omega⟩)
  | (show _ ∨ _; exact Or.inr ⟨by omega, by omega⟩)
  | (show _ ∧ _; exact ⟨by omega, by omega⟩)
  | (show _ ∧ _; exact ⟨by decide, by decide⟩)
  | exact sz1000 (by omega)
  | exact sz1000' (by omega))
local macro_rules | `(tactic| walk_at "sz") => `(tactic| first
  | exact sz1000 (Nat.le_of_ble_eq_true rfl)
  | exact sz1000 (by omega)
  | exact sz1000'' (by omega)
  | assumption)
/-- one step of a reading: a slot, an operator upon numbers, a call upon values -/
local macro_rules | `(tactic| walk_at "rd") => `(tactic| first
  | refine ⟨_, (rfl : (_ : List (Option V))[_]? = some (some _)), ?_⟩
  | refine ⟨_, _, (rfl : (_ : V) = _), (rfl : (_ : V) = _), (by walk_at "sd" : (_ : Prop)), ?_⟩
  | refine ⟨_, _, (rfl : (_ : V) = _), (rfl : (_ : V) = _), ?_⟩
  | refine ⟨_, (rfl : (_ : List V) = _), (by walk_at "sd" : (_ : Prop)), (by walk_at "sd" : (_ : Prop)), ?_⟩
  | refine ⟨_, (rfl : (_ : List V) = _), ?_⟩
  | refine ⟨_, (rfl : (_ : V) = _), ?_⟩
  | refine .inl ⟨_, (rfl : (_ : List V) = _), ?_⟩
  | refine ⟨⟨_, (rfl : (_ : V) = _)⟩, ?_⟩
  | refine ⟨(rfl : scal _ _ = true), ?_⟩
  | refine ⟨(rfl : V.non = V.non), ?_⟩
  | refine ⟨(by walk_at "sz" : (_ ≤ sizeLine)), ?_⟩)
local macro_rules | `(tactic| walk_at "rds") => `(tactic| repeat walk_at "rd")
theorem tyes {σ : L2.St} {H : Hp} {A B : Hp → Prop} (h : A H) : tYes σ H (fun b H3 => if b = true then A H3 else B H3) := by
  show (if true = true then A H else B H)
  rw [if_pos rfl]
  exact h
theorem sum_ones {ys : List Str} (h : ∀ y ∈ ys, y.length = 1) : (ys.map (fun x => x.length)).sum = ys.length := by
  induction ys with
  | nil => rfl
  | cons y r ih =>
    rw [List.map_cons, List.sum_cons, ih (fun z hz => h z (List.mem_cons_of_mem _ hz)), h y List.mem_cons_self, List.length_cons]
    omega
theorem chr_at {z : Str} {i : Int} (h0 : 0 ≤ i) (h1 : i < z.length) : ∃ c, atI z.cps.toList i = some c := by
  obtain ⟨j, rfl⟩ := Int.eq_ofNat_of_zero_le h0
  have hj : j < z.cps.toList.length := by
    rw [Array.length_toList]
    exact Int.ofNat_lt.mp h1
  exact ⟨z.cps.toList[j], atI_nat (List.getElem?_eq_getElem hj)⟩
/-- what an append to a tracked new list leaves -/
theorem lst_app {α : Type} {H : Hp} {D : Addr} {f : α → V} {ys : List α} {y : α} : upd H D (.lst (ys.map f ++ [f y])) D = some (.lst ((ys ++ [y]).map f)) := by
  rw [upd_same, List.map_append]
  rfl
theorem rg40 {n : Nat} (h : n ≤ 100000) : RgC 0 n 40 ((n + 39) / 40) := by
  have e : Builtin.Range.rangeSize 0 (n : Int) 40 = (((n + 39) / 40 : Nat) : Int) := by
    rw [rangeSize_pos (by decide) (by omega)]
    omega
  refine ⟨by decide, by decide, ?_, e⟩
  unfold Builtin.Range.small
  rw [e]
  unfold Builtin.Range.rangeFitsLong
  simp
  omega
theorem isi {K : PySem.W.Frag} {H : Hp} {x : V} {T1 T2 : String} {b : Bool} {Q : VK} (ty : TyX K H x (.type T1)) (e : kitB T1 T2 = some b) (q : Q (.bl b) H) : rIsi K [x, .ty T2] H Q :=
  ⟨x, .ty T2, _, _, b, rfl, .ty _, ty, kit_ty e, q⟩
theorem ifT {c : Bool} {A B : Prop} (hc : c = true) (h : A) : if c = true then A else B := by
  rw [if_pos hc]
  exact h
theorem ifF {c : Bool} {A B : Prop} (hc : c = false) (h : B) : if c = true then A else B := by
  rw [if_neg (by rw [hc]; decide)]
  exact h
local macro_rules | `(tactic| walk_at "isk") => `(tactic| first
  | exact .base (.int _) | exact .base (.str _) | exact .base (.bl _) | exact .base .non
  | exact .base (.lst (by assumption)) | exact .base (.tup (by assumption)) | exact .base (.dK (by assumption)))
/-- isinstance(x, T) with a built-in T; the object's fact stands in the context -/
local macro_rules | `(tactic| walk_at "isi") => `(tactic| first
  | refine ⟨_, .ty _, _, _, true, (rfl : (_ : List V) = _), .ty _, (by walk_at "isk"), kit_ty (by decide +kernel), ?_⟩
  | refine ⟨_, .ty _, _, _, false, (rfl : (_ : List V) = _), .ty _, (by walk_at "isk"), kit_ty (by decide +kernel), ?_⟩)
/-! ### classes of the top -/
structure MethOk (K : PySem.W.Frag) (C : Addr) (m qual : Str) (st : Stmt) (ps : List Str) : Prop where
  ex : ∃ (f : Addr) (fd : FuncData), Meth K C m f ∧ L2.Fun K m qual st f fd ∧ Binds K fd ps []
structure MakOk (K : PySem.W.Frag) (C : Addr) (qual : Str) (st : Stmt) (ps : List Str) : Prop where
  ex : ∃ (f : Addr) (fd : FuncData), Mk K C f ∧ L2.Fun K "__init__" qual st f fd ∧ Binds K fd ps []
section
variable {P : Program} {w : World} {K : PySem.W.Frag} {mg : Str → Option Value} {base : Heap}
theorem met {C : Addr} {m qual : Str} {st : Stmt} {N ps : List Str} {k : Nat} {sp : Sp} (c : Cls K C) (D : MethOk K C m qual st ps) (S : FnScope N ps (defScope st)) (len : ∀ vs H Q E, sp vs H Q E → vs.length = ps.length)
    (hbody : ∀ (f : Addr) (cdv : Value) (A : Around) (outer : List Env) (s : Shared) (H : Hp) (vs : List V) (Q : VK) (E : XK), Room k (A.deeper (envOfC qual (defScope st) s.heap.objs.size f cdv)) → sp vs H Q E →
      ∃ t, PSs (cxOf L2.CX0 P w K mg base N qual (defScope st) f cdv A outer s H E).nox (defBody st) t ∧ t { nx := fun _ H' => Q .non H', rt := Q } (start N vs) H) : Met P w K mg base (k + 1) C m sp [] := by
  obtain ⟨f, fd, M, F, b⟩ := D.ex
  exact ⟨f, fd, ps, [], c, M, F.ok S len (fun cdv A outer s H vs Q E hr h => hbody f cdv A outer s H vs Q E hr h), b, .nil⟩
theorem mak {C : Addr} {x qual : Str} {st : Stmt} {N ps : List Str} {k : Nat} {sp : Sp} (hm : mg x = some (.ref C)) (D : MakOk K C qual st ps) (S : FnScope N ps (defScope st)) (len : ∀ vs H Q E, sp vs H Q E → vs.length = ps.length)
    (hbody : ∀ (f : Addr) (cdv : Value) (A : Around) (outer : List Env) (s : Shared) (H : Hp) (vs : List V) (Q : VK) (E : XK), Room k (A.deeper (envOfC qual (defScope st) s.heap.objs.size f cdv)) → sp vs H Q E →
      ∃ t, PSs (cxOf L2.CX0 P w K mg base N qual (defScope st) f cdv A outer s H E).nox (defBody st) t ∧ t { nx := fun _ H' => Q .non H', rt := Q } (start N vs) H) : Mak P w K mg base (k + 1) x C sp [] := by
  obtain ⟨f, fd, M, F, b⟩ := D.ex
  exact ⟨f, fd, ps, [], M, F.ok S len (fun cdv A outer s H vs Q E hr h => hbody f cdv A outer s H vs Q E hr h), hm, b, .nil⟩
end
/-- a tuple of the top, in the written part -/
def KTup (K : PySem.W.Frag) (a : Addr) (xs : List V) : Prop := ∃ o its n, K.lookup a = some o ∧ o.cls = Value.type "tuple" ∧ o.data = Data.seq its n ∧ its.size ≤ sizeLine ∧ Vals xs its.toList
theorem pe_mk0 {X : Cx} {k j : Nat} {x : Str} {C : Addr} {sp : Sp} {dvs : List V} {p pos : Pos} (c : Mak X.prog X.w X.K X.mg X.base k x C sp dvs) (hr : Room j X.A) (hk : k + 1 ≤ j) (hg : Gl X x)
    (hdb : (x == ("__debug__" : Str)) = false := by decide) : PE X (.Call (.Name x p) [] [] pos) (tMake C sp dvs L2.E0 tNil) := by
  obtain ⟨f, fd, ps, ds, M, F, hm, b, d⟩ := c.ex
  exact pe_make0 M F (hr.mono hk) hg hm b d pass0 hdb
/-! ### rules whose written part is named K (a comprehension's context is another one) -/
section
variable {X : Cx} {K : PySem.W.Frag}
theorem kin (h : X.K = K := by rfl) : OpR X (compareOp .In) (rIn K false) := by subst h; exact op_in_seq
theorem knin (h : X.K = K := by rfl) : OpR X (compareOp .NotIn) (rIn K true) := by subst h; exact op_notIn_seq
theorem kixl (h : X.K = K := by rfl) : IxR X (rIxL K) := by subst h; exact ix_list
theorem kixt (h : X.K = K := by rfl) : IxR X (rIxT K) := by subst h; exact ix_tup
theorem ksll (h : X.K = K := by rfl) : SlR X (rSlL K) := by subst h; exact sl_list
theorem kisi (h : X.K = K := by rfl) : CallR X (.builtin "isinstance") (rIsi K) := by subst h; exact call_isi
theorem kfld {o : Expr} {f : Str} {pos : Pos} {ta : TE} (he : PE X o ta) (hb : attributeBase o f X.env (eval o X.env) = eval o X.env := by rfl) (h : X.K = K := by rfl) : PE X (.Attribute o f pos) (tFld K ta f) := by subst h; exact pe_fld he hb
def rLenK (K : PySem.W.Frag) : List V → Hp → VK → Prop := fun xs H Q => ∃ p ys, xs = [.ref p] ∧ (SqL K H p ys ∨ SqT K H p ys) ∧ Q (.int ys.length) H
theorem klen (h : X.K = K := by rfl) : CallR X (.builtin "len") (rLenK K) := by subst h; exact call_len_seq
end
theorem hu1 {k : Nat} {A : Around} (hr : Room k A) : A.units + 1 < cLine := by have := hr.units; omega
section
variable {X : Cx}
theorem kdin {d : Addr} (h : ∃ es n, KDict X.K X.w d es n) : OpR X (compareOp .In) (fun x y H Q => ∃ (z : Str) (r : Option Value), x = .str z ∧ y = .ref d ∧ PySem.W.nsIn X.K d z = some r ∧ Q (.bl r.isSome) H) := by
  obtain ⟨es, n, D⟩ := h
  exact op_in_kd D
theorem kdnin {d : Addr} (h : ∃ es n, KDict X.K X.w d es n) : OpR X (compareOp .NotIn) (fun x y H Q => ∃ (z : Str) (r : Option Value), x = .str z ∧ y = .ref d ∧ PySem.W.nsIn X.K d z = some r ∧ Q (.bl (!r.isSome)) H) := by
  obtain ⟨es, n, D⟩ := h
  exact op_notIn_kd D
end

def topS (i : Nat) : Stmt := PySem.Challenge.pw_oathledger_k15_cut_texts.main.body.getD i (.Pass ⟨0, 0, 0, 0⟩)
abbrev s_cut : Stmt := topS 2
theorem sc_cut : FnScope ["text", "at"] ["text"] (defScope s_cut) := ⟨rfl, rfl, rfl, by decide +kernel, rfl, by decide +kernel, by decide +kernel⟩
abbrev s__law_cell : Stmt := topS 4
theorem sc__law_cell : FnScope ["script", "k"] ["script", "k"] (defScope s__law_cell) := ⟨rfl, rfl, rfl, by decide +kernel, rfl, by decide +kernel, by decide +kernel⟩
abbrev s__law_text : Stmt := topS 5
theorem sc__law_text : FnScope ["cell", "size", "chars", "k"] ["cell", "size"] (defScope s__law_text) := ⟨rfl, rfl, rfl, by decide +kernel, rfl, by decide +kernel, by decide +kernel⟩
abbrev s_law : Stmt := topS 6
theorem sc_law : FnScope ["script", "size", "text", "actual", "k"] ["script"] (defScope s_law) := ⟨rfl, rfl, rfl, by decide +kernel, rfl, by decide +kernel, by decide +kernel⟩
structure Txt (K : PySem.W.Frag) (mg : Str → Option Value) : Prop where
  d_cut : DefOk K mg "cut" s_cut ["text"]
  d__law_cell : DefOk K mg "_law_cell" s__law_cell ["script", "k"]
  d__law_text : DefOk K mg "_law_text" s__law_text ["cell", "size"]
  d_law : DefOk K mg "law" s_law ["script"]
  c_PIECE_SIZE : ∃ u, mg "PIECE_SIZE" = some u ∧ RelV (.int 40) u
  z_bool : mg "bool" = none
  z_int : mg "int" = none
  z_isinstance : mg "isinstance" = none
  z_len : mg "len" = none
  z_list : mg "list" = none
  z_range : mg "range" = none
  z_str : mg "str" = none
set_option pp.maxSteps 150
section
variable {P : Program} {w : World} {K : PySem.W.Frag} {mg : Str → Option Value} {base : Heap}
/-! ### _law_cell -/
def spCell (K : PySem.W.Frag) : Sp := fun vs H Q _ => ∃ (a : Addr) (ns : List Int) (k : Nat), vs = [.ref a, .int k] ∧ SqL K H a (ns.map V.int) ∧ Q (.int (ns.getD k 0)) H
theorem c__law_cell (T : Txt K mg) : Cal P w K mg base 1 "_law_cell" (spCell K) [] := by
  refine cal T.d__law_cell sc__law_cell (fun vs H Q E h => ?_) (fun f cdv A outer s H vs Q E hr h => ?_)
  · obtain ⟨a, ns, k, rfl, _⟩ := h; rfl
  obtain ⟨a, ns, k, rfl, hS, q⟩ := h
  refine ⟨_, (pss_cons (ps_if (pt_cmpR op_lt (pv 1) (pe_callB (klen (K := K)) (by rfl) T.z_len (by decide +kernel) (pa_cons (pv 0) pa_nil)) (nomark _)) (pss_one (ps_ret (pe_ix (kixl (K := K)) (pv 0) (pv 1) (fun _ _ => rfl)))) pss_nil)
      (pss_one (ps_ret pe_int))), ?_⟩
  refine ⟨.int k, rfl, .ref a, rfl, a, _, rfl, .inl hS, _, _, rfl, rfl, _, rfl, ite2 (fun e => ?_) (fun e => ?_)⟩
  · have e := of_decide_eq_true e
    rw [List.length_map] at e
    have e1 : k < ns.length := by omega
    have g : (ns.map V.int)[k]? = some (.int (ns.getD k 0)) := by
      rw [List.getElem?_map, List.getD_eq_getElem?_getD, List.getElem?_eq_getElem e1]; rfl
    exact ⟨.ref a, rfl, .int k, rfl, a, _, _, _, rfl, rfl, hS, atI_nat g, q⟩
  · have e2 : ¬ ((k : Int) < ((ns.map V.int).length : Int)) := fun z => e (decide_eq_true z)
    rw [List.length_map] at e2
    have e1 : ns.getD k 0 = 0 := by
      rw [List.getD_eq_getElem?_getD, List.getElem?_eq_none (by omega)]; rfl
    rw [e1] at q
    exact q
/-! ### _law_text -/
def spText (K : PySem.W.Frag) : Sp := fun vs H Q _ => ∃ (c : Int) (n : Nat), vs = [.int c, .int n] ∧ n ≤ 1000 ∧ ∀ H' z, Same H H' → z.length = n → Q (.str z) H'
theorem c__law_text (T : Txt K mg) : Cal P w K mg base 1 "_law_text" (spText K) [] := by
  refine cal T.d__law_text sc__law_text (fun vs H Q E h => ?_) (fun f cdv A outer s H vs Q E hr h => ?_)
  · obtain ⟨c, n, rfl, _⟩ := h; rfl
  obtain ⟨c, n, rfl, hn, q⟩ := h
  refine ⟨_, (pss_cons (ps_set (i := 2) sc__law_text.nd rfl (Or.inr rfl) pe_str)
      (pss_cons (ps_set (i := 2) sc__law_text.nd rfl (Or.inr rfl) (pe_op op_add_str (pv 2) pe_str))
      (pss_one (ps_ret (pe_join pe_str (pe_lc (own := [("k", 3)]) (g := gName 3) (by rfl) sc__law_text.nd (pi_range1 (by rfl) T.z_range (pa_cons (pv 1) pa_nil)) (blkOk_by (own := [("k", 3)]) (N := ["cell", "size", "chars", "k"]) (sc := defScope s__law_text) (by decide +kernel)) (fun _ _ _ _ _ => pg_name (i := 3) sc__law_text.nd rfl (Or.inl rfl)) (fun _ _ _ _ _ => pts_nil) (fun _ _ _ _ _ => (pe_ix ix_str (pv 2) (pe_op op_mod (pe_callTy call_int1 (by rfl) T.z_int (by decide +kernel) (pa_cons (pe_op op_add (pe_op op_add (pe_op op_fdiv (pv 0) pe_int) (pe_op op_mul (pe_op op_mul (pe_op op_mod (pv 0) pe_int) (pv 3)) pe_int)) (pe_op op_fdiv (pv 3) pe_int)) pa_nil)) pe_int) (fun _ _ => rfl))))))))), ?_⟩
  walk_at "rds"
  intro D hD
  refine lc_it walk_range (Pv := fun i H' => ∃ ys : List Str, Same H H' ∧ H' D = some (.lst (ys.map V.str)) ∧ ys.length = i ∧ ∀ y ∈ ys, y.length = 1) ⟨[], same_upd hD, upd_same, rfl, by simp⟩ (fun _ _ _ _ => trivial) (fun i x H1 H2 hi hp hy => ?_) (fun H1 hp => ?_)
  · obtain ⟨ys, sm, hl, hn1, h1⟩ := hp
    obtain ⟨rfl, rfl⟩ := hy
    have hi' : i < n := by omega
    refine ⟨rfl, tyes ?_⟩
    walk_at "rds"
    have e94 : (Str.ofString " !\"#$&'()*+,-./0123456789:;<=>?@ABCDEFGHIJKLMNOPQRSTUVWXYZ[\\]^_`" ++ Str.ofString "abcdefghijklmnopqrstuvwxyz{|}~").length = 94 := by decide +kernel
    obtain ⟨ch, hch⟩ := chr_at (z := Str.ofString " !\"#$&'()*+,-./0123456789:;<=>?@ABCDEFGHIJKLMNOPQRSTUVWXYZ[\\]^_`" ++ Str.ofString "abcdefghijklmnopqrstuvwxyz{|}~") (i := (c / 3 + c % 3 * (0 + (i : Int)) * 7 + (0 + (i : Int)) / 5) % 94) (by omega) (by rw [e94]; omega)
    refine ⟨_, _, ch, rfl, rfl, by decide +kernel, hch, _, hl, ?_, ys ++ [⟨#[ch]⟩], same_mut sm hD, lst_app, ?_, ?_⟩
    · rw [List.length_map]; exact sz1000' (by omega)
    · rw [List.length_append, hn1]; rfl
    · intro y hy
      rcases List.mem_append.mp hy with hy | hy
      · exact h1 y hy
      · rw [List.mem_singleton.mp hy]; rfl
  · obtain ⟨ys, sm, hl, hn1, h1⟩ := hp
    refine ⟨_, D, ys, rfl, rfl, .inl (sq hl), ?_, ?_⟩
    · have e : (Str.ofString "").length = 0 := by decide
      rw [e, sum_ones h1, hn1]; omega
    · refine q _ _ sm ?_
      rw [PySem.W.KT.join_ones ys h1, hn1]; omega
def spCut (K : PySem.W.Frag) : Sp := fun vs H Q _ => ∃ (z : Str), vs = [.str z] ∧ z.length ≤ 1000 ∧ ∀ H' p, Same H H' → H p = none → H' p = some (.lst ((List.range ((z.length + 39) / 40)).map fun (i : Nat) => V.str (cutS z (some (40 * i)) (some (40 * i + 40))))) → Q (.ref p) H'
theorem c_cut (T : Txt K mg) : Cal P w K mg base 1 "cut" (spCut K) [] := by
  refine cal T.d_cut sc_cut (fun vs H Q E h => ?_) (fun f cdv A outer s H vs Q E hr h => ?_)
  · obtain ⟨z, rfl, _⟩ := h; rfl
  obtain ⟨z, rfl, hn, q⟩ := h
  refine ⟨_, (pss_one (ps_ret (pe_lc (own := [("at", 1)]) (g := gName 1) (by rfl) sc_cut.nd (pi_range3 (by rfl) T.z_range (pa_cons pe_int (pa_cons (pe_callB call_len_str (by rfl) T.z_len (by decide +kernel) (pa_cons (pv 0) pa_nil)) (pa_cons (pe_gc (by rfl) T.c_PIECE_SIZE) pa_nil)))) (blkOk_by (own := [("at", 1)]) (N := ["text", "at"]) (sc := defScope s_cut) (by decide +kernel)) (fun _ _ _ _ _ => pg_name (i := 1) sc_cut.nd rfl (Or.inl rfl)) (fun _ _ _ _ _ => pts_nil) (fun _ _ _ _ _ => (pe_slice sl_str (pv 0) (po_some (pv 1)) (po_some (pe_op op_add (pv 1) (pe_gc (by rfl) T.c_PIECE_SIZE)))))))), ?_⟩
  walk_at "rds"
  refine ⟨_, _, _, _, rfl, rg40 (n := z.length) (by omega), fun D hD => ?_⟩
  refine lc_it walk_rangeC (Pv := fun i H' => Same H H' ∧ H' D = some (.lst ((List.range i).map fun (i : Nat) => V.str (cutS z (some (40 * i)) (some (40 * i + 40)))))) ⟨same_upd hD, upd_same⟩ (fun _ _ _ _ => trivial) (fun i x H1 H2 hi hp hy => ?_) (fun H1 hp => ?_)
  · obtain ⟨sm, hl⟩ := hp
    obtain ⟨rfl, rfl⟩ := hy
    refine ⟨rfl, tyes ?_⟩
    walk_at "rds"
    refine ⟨_, hl, ?_, same_mut sm hD, ?_⟩
    · rw [List.length_map, List.length_range]; exact sz1000' (by omega)
    · rw [upd_same, List.range_succ, List.map_append, show (0 + (i : Int) * 40) = 40 * i by omega]
      rfl
  · exact q _ _ hp.1 hD hp.2
theorem ok_law {f : Addr} {fd : FuncData} (F : L2.Fun K "law" "law" s_law f fd) (T : Txt K mg) : FnOk P w K mg base L2.CX0 2 f fd ["script"] (spLaw K) := by
  have c__law_cell := c__law_cell (P := P) (w := w) (base := base) T
  have c__law_text := c__law_text (P := P) (w := w) (base := base) T
  have c_cut := c_cut (P := P) (w := w) (base := base) T
  refine F.ok sc_law (fun vs H Q E h => ?_) (fun cdv A outer s H vs Q E hr h => ?_)
  · obtain ⟨a, ns, rfl, _⟩ := h; rfl
  obtain ⟨a, ns, rfl, hS, hlen, q⟩ := h
  refine ⟨_, (pss_cons (ps_set (i := 1) sc_law.nd rfl (Or.inl rfl) (pe_op op_add pe_int (pe_op op_mod (pe_callTy call_int1 (by rfl) T.z_int (by decide +kernel) (pa_cons (pe_c c__law_cell hr (by decide) (by rfl) (pa_cons (pv 0) (pa_cons pe_int pa_nil))) pa_nil)) pe_int)))
      (pss_cut (ps_if (pt_cmpR op_eq (pe_op op_mod (pe_callTy call_int1 (by rfl) T.z_int (by decide +kernel) (pa_cons (pe_op op_fdiv (pe_c c__law_cell hr (by decide) (by rfl) (pa_cons (pv 0) (pa_cons pe_int pa_nil))) pe_int) pa_nil)) pe_int) pe_int (nomark _)) (pss_one (ps_set (i := 1) sc_law.nd rfl (Or.inl rfl) (pe_op op_mul pe_int (pe_op op_add pe_int (pe_op op_mod (pv 1) pe_int))))) pss_nil)
      (pss_cons (ps_set (i := 2) sc_law.nd rfl (Or.inl rfl) (pe_c c__law_text hr (by decide) (by rfl) (pa_cons (pe_c c__law_cell hr (by decide) (by rfl) (pa_cons (pv 0) (pa_cons pe_int pa_nil))) (pa_cons (pv 1) pa_nil))))
      (pss_cons (ps_set (i := 3) sc_law.nd rfl (Or.inl rfl) (pe_c c_cut hr (by decide) (by rfl) (pa_cons (pv 2) pa_nil)))
      (pss_cons (ps_if (PW.pt (pw_or (pt_not (pt_val (pe_callB (kisi (K := K)) (by rfl) T.z_isinstance (by decide +kernel) (pa_cons (pv 3) (pa_cons (pe_bltn (v := .ty "list") (by rfl) T.z_list (by decide +kernel) rfl) pa_nil))))) (pw_or1 (pt_cmpR op_ne (pe_callB (klen (K := K)) (by rfl) T.z_len (by decide +kernel) (pa_cons (pv 3) pa_nil)) (pe_op op_fdiv (pe_op op_add (pv 1) pe_int) pe_int) (nomark _))))) (pss_one (ps_ret pe_bl)) pss_nil)
      (pss_cons (ps_for PassesOwn.never rfl (pi_range1 (by rfl) T.z_range (pa_cons (pe_callB (klen (K := K)) (by rfl) T.z_len (by decide +kernel) (pa_cons (pv 3) pa_nil)) pa_nil)) (pg_name (i := 4) sc_law.nd rfl (Or.inl rfl)) (pss_one (ps_if (PW.pt (pw_or (pt_not (pt_val (pe_callB (kisi (K := K)) (by rfl) T.z_isinstance (by decide +kernel) (pa_cons (pe_ix (kixl (K := K)) (pv 3) (pv 4) (fun _ _ => rfl)) (pa_cons (pe_bltn (v := .ty "str") (by rfl) T.z_str (by decide +kernel) rfl) pa_nil))))) (pw_or1 (pt_cmpR op_ne (pe_ix (kixl (K := K)) (pv 3) (pv 4) (fun _ _ => rfl)) (pe_slice sl_str (pv 2) (po_some (pe_op op_mul pe_int (pv 4))) (po_some (pe_op op_add (pe_op op_mul pe_int (pv 4)) pe_int))) (nomark _))))) (pss_one (ps_ret pe_bl)) pss_nil)))
      (pss_one (ps_ret (pe_and (pe_cmpR op_eq (pe_gc (by rfl) T.c_PIECE_SIZE) pe_int (nomark _)) (pe_one (pe_not (pe_callB (kisi (K := K)) (by rfl) T.z_isinstance (by decide +kernel) (pa_cons (pe_gc (by rfl) T.c_PIECE_SIZE) (pa_cons (pe_bltn (v := .ty "bool") (by rfl) T.z_bool (by decide +kernel) rfl) pa_nil)))))))))))))), ?_⟩
  walk_at "rds"
  refine ⟨a, ns, 0, rfl, hS, ?_⟩
  walk_at "rds"
  refine ⟨fun σ' H' => H' = H ∧ ∃ z : Nat, σ' = [some (.ref a), some (.int z), none, none, none] ∧ 1 ≤ z ∧ z ≤ 500, ?_, ?_⟩
  · walk_at "rds"
    refine ⟨a, ns, 0, rfl, hS, ?_⟩
    walk_at "rds"
    refine ite2 (fun _ => ?_) (fun _ => ?_)
    · refine ⟨_, rfl, _, _, rfl, rfl, by walk_at "sd", _, _, rfl, rfl, _, _, rfl, rfl, by walk_at "sd", ?_⟩
      refine ⟨rfl, (40 * (1 + (1 + ns.getD 0 0 % 500) % 12)).toNat, ?_, by omega, by omega⟩
      rw [Int.toNat_of_nonneg (by omega)]
      rfl
    · refine ⟨rfl, (1 + ns.getD 0 0 % 500).toNat, ?_, by omega, by omega⟩
      rw [Int.toNat_of_nonneg (by omega)]
      rfl
  · rintro σ' H' ⟨rfl, z, rfl, h1, h2⟩
    walk_at "rds"
    refine ⟨a, ns, 1, rfl, hS, ?_⟩
    walk_at "rds"
    refine ⟨_, z, rfl, by omega, fun H1 t sm hz => ?_⟩
    walk_at "rds"
    refine ⟨by omega, fun H2 p sm2 np hp => ?_⟩
    walk_at "rds"
    walk_at "isi"
    walk_at "rds"
    refine ⟨_, _, rfl, .inl (sq hp), ?_⟩
    walk_at "rds"
    have el : (((List.range ((t.length + 39) / 40)).map fun (i : Nat) => V.str (cutS t (some (40 * i)) (some (40 * i + 40)))).length : Int) = ((z : Int) + 39) / 40 := by
      rw [List.length_map, List.length_range, hz]; omega
    refine ifF ?_ ?_
    · show (!decide (V.int _ = V.int _)) = false
      rw [el, decide_eq_true rfl]; rfl
    walk_at "rds"
    refine ⟨_, _, rfl, .inl (sq hp), ?_⟩
    refine ⟨_, rfl, by omega, by omega, ?_⟩
    refine for_it walk_range (Pv := fun i σ' H' => H' = H2 ∧ ∃ y, σ' = [some (.ref a), some (.int z), some (.str t), some (.ref p), y]) ⟨rfl, _, rfl⟩ (fun _ _ _ _ _ => trivial) (fun i x σ' H1 H3 hi hp' hy => ?_) (fun σ' H1 hp' => ?_)
    · obtain ⟨rfl, y, rfl⟩ := hp'
      obtain ⟨rfl, rfl⟩ := hy
      have hi' : i < (t.length + 39) / 40 := by omega
      have g : ((List.range ((t.length + 39) / 40)).map fun (i : Nat) => V.str (cutS t (some (40 * i)) (some (40 * i + 40))))[i]? = some (V.str (cutS t (some (40 * i)) (some (40 * i + 40)))) := by
        rw [List.getElem?_map, List.getElem?_range hi']; rfl
      have e0 : (0 : Int) + (i : Int) = (i : Int) := by omega
      walk_at "rds"
      refine ⟨p, _, (i : Int), _, rfl, by show V.int (0 + (i : Int)) = V.int i; rw [e0], sq hp, atI_nat g, ?_⟩
      walk_at "isi"
      walk_at "rds"
      refine ⟨p, _, (i : Int), _, rfl, by show V.int (0 + (i : Int)) = V.int i; rw [e0], sq hp, atI_nat g, ?_⟩
      walk_at "rds"
      refine ifF ?_ ?_
      · show (!decide (V.str (cutS t (some (40 * (i : Int))) (some (40 * (i : Int) + 40))) = V.str (cutS t (some (40 * (0 + (i : Int)))) (some (40 * (0 + (i : Int)) + 40))))) = false
        rw [e0, decide_eq_true rfl]; rfl
      exact ⟨rfl, _, rfl⟩
    · obtain ⟨rfl, y, rfl⟩ := hp'
      walk_at "rds"
      walk_at "isi"
      walk_at "rds"
      exact q _
end
theorem fin {P : Program} {w : World} {K : PySem.W.Frag} {mg : Str → Option Value} {fa : Addr} (hfa : mg "law" = some (.ref fa)) (T : Txt K mg) :
    ∃ fd : FuncData, (∀ (s : Shared) (u : Value), BindsTo s fd ⟨[u], []⟩ [("script", u)]) ∧ ∀ base : Heap, K.In base → base.Ns mainGlobals mg → FnOk P w K mg base L2.CX0 2 fa fd ["script"] (spLaw K) := by
  obtain ⟨f, fd, F, hm, b⟩ := T.d_law.ex
  cases hfa.symm.trans hm
  refine ⟨fd, fun s u => ?_, fun base _ _ => ok_law F T⟩
  obtain ⟨oc, od, kV, doc, pm, an, cdv, ct, osl, rfl, l, _⟩ := F.ex
  exact .of_eq rfl
theorem all_mk {K : PySem.W.Frag} {h : Heap} {mg : Str → Option Value} (X : K.In h) (G : h.Ns mainGlobals mg)
    {f_cut : Addr} {od_cut an_cut : Option Addr} {sl_cut : Array (Option Value)} {oc_cut kV_cut dc_cut pm_cut cd_cut ct_cut : Value}
    {f__law_cell : Addr} {od__law_cell an__law_cell : Option Addr} {sl__law_cell : Array (Option Value)} {oc__law_cell kV__law_cell dc__law_cell pm__law_cell cd__law_cell ct__law_cell : Value}
    {f__law_text : Addr} {od__law_text an__law_text : Option Addr} {sl__law_text : Array (Option Value)} {oc__law_text kV__law_text dc__law_text pm__law_text cd__law_text ct__law_text : Value}
    {f_law : Addr} {od_law an_law : Option Addr} {sl_law : Array (Option Value)} {oc_law kV_law dc_law pm_law cd_law ct_law : Value}
    {t_PIECE_SIZE : Tok}
    (a_cut : PySem.W.nsIn K mainGlobals "cut" = some (some (.ref f_cut)))
    (l_cut : K.lookup f_cut = some ⟨oc_cut, od_cut, .func (PySem.W.fnOf "cut" "cut" (defArgs s_cut) (defBody s_cut) (defScope s_cut) .none kV_cut dc_cut pm_cut an_cut cd_cut ct_cut), sl_cut⟩)
    (e_cut : PySem.W.codeIn K cd_cut "cut" = true)
    (k_cut : PySem.W.keepIn K (.ref f_cut) = true)
    (a__law_cell : PySem.W.nsIn K mainGlobals "_law_cell" = some (some (.ref f__law_cell)))
    (l__law_cell : K.lookup f__law_cell = some ⟨oc__law_cell, od__law_cell, .func (PySem.W.fnOf "_law_cell" "_law_cell" (defArgs s__law_cell) (defBody s__law_cell) (defScope s__law_cell) .none kV__law_cell dc__law_cell pm__law_cell an__law_cell cd__law_cell ct__law_cell), sl__law_cell⟩)
    (e__law_cell : PySem.W.codeIn K cd__law_cell "_law_cell" = true)
    (k__law_cell : PySem.W.keepIn K (.ref f__law_cell) = true)
    (a__law_text : PySem.W.nsIn K mainGlobals "_law_text" = some (some (.ref f__law_text)))
    (l__law_text : K.lookup f__law_text = some ⟨oc__law_text, od__law_text, .func (PySem.W.fnOf "_law_text" "_law_text" (defArgs s__law_text) (defBody s__law_text) (defScope s__law_text) .none kV__law_text dc__law_text pm__law_text an__law_text cd__law_text ct__law_text), sl__law_text⟩)
    (e__law_text : PySem.W.codeIn K cd__law_text "_law_text" = true)
    (k__law_text : PySem.W.keepIn K (.ref f__law_text) = true)
    (a_law : PySem.W.nsIn K mainGlobals "law" = some (some (.ref f_law)))
    (l_law : K.lookup f_law = some ⟨oc_law, od_law, .func (PySem.W.fnOf "law" "law" (defArgs s_law) (defBody s_law) (defScope s_law) .none kV_law dc_law pm_law an_law cd_law ct_law), sl_law⟩)
    (e_law : PySem.W.codeIn K cd_law "law" = true)
    (k_law : PySem.W.keepIn K (.ref f_law) = true)
    (a_PIECE_SIZE : PySem.W.nsIn K mainGlobals "PIECE_SIZE" = some (some (.int 40 t_PIECE_SIZE)))
    (z_bool : PySem.W.nsIn K mainGlobals "bool" = some none)
    (z_int : PySem.W.nsIn K mainGlobals "int" = some none)
    (z_isinstance : PySem.W.nsIn K mainGlobals "isinstance" = some none)
    (z_len : PySem.W.nsIn K mainGlobals "len" = some none)
    (z_list : PySem.W.nsIn K mainGlobals "list" = some none)
    (z_range : PySem.W.nsIn K mainGlobals "range" = some none)
    (z_str : PySem.W.nsIn K mainGlobals "str" = some none) : Txt K mg :=
  { d_cut := ⟨_, _, (fun_mk l_cut e_cut k_cut), PySem.W.mg_of X G a_cut, ((fun_mk (st := s_cut) l_cut e_cut k_cut).binds (ps := ["text"]) fun _ _ _ _ _ _ us hl => match us, hl with | [_], _ => rfl)⟩,
    d__law_cell := ⟨_, _, (fun_mk l__law_cell e__law_cell k__law_cell), PySem.W.mg_of X G a__law_cell, ((fun_mk (st := s__law_cell) l__law_cell e__law_cell k__law_cell).binds (ps := ["script", "k"]) fun _ _ _ _ _ _ us hl => match us, hl with | [_, _], _ => rfl)⟩,
    d__law_text := ⟨_, _, (fun_mk l__law_text e__law_text k__law_text), PySem.W.mg_of X G a__law_text, ((fun_mk (st := s__law_text) l__law_text e__law_text k__law_text).binds (ps := ["cell", "size"]) fun _ _ _ _ _ _ us hl => match us, hl with | [_, _], _ => rfl)⟩,
    d_law := ⟨_, _, (fun_mk l_law e_law k_law), PySem.W.mg_of X G a_law, ((fun_mk (st := s_law) l_law e_law k_law).binds (ps := ["script"]) fun _ _ _ _ _ _ us hl => match us, hl with | [_], _ => rfl)⟩,
    c_PIECE_SIZE := ⟨_, PySem.W.mg_of X G a_PIECE_SIZE, _, rfl⟩,
    z_bool := PySem.W.mg_none_of X G z_bool,
    z_int := PySem.W.mg_none_of X G z_int,
    z_isinstance := PySem.W.mg_none_of X G z_isinstance,
    z_len := PySem.W.mg_none_of X G z_len,
    z_list := PySem.W.mg_none_of X G z_list,
    z_range := PySem.W.mg_none_of X G z_range,
    z_str := PySem.W.mg_none_of X G z_str }
end Law
open PySem PySem.W PyProof.Rows
set_option maxRecDepth 100000 in
set_option maxHeartbeats 0 in
theorem PySem.Challenge.cw_oathledger_k15_cut_texts_holds : PySem.Challenge.rw_oathledger_k15_cut_texts.Holds := by
  w_on; o_law; k_head; (case hw => w_witness2)
  k_fill
  refine L2.walk_of (l := PySem.Challenge.rw_oathledger_k15_cut_texts) (n := 63) (k := 2) (x := "script") (CX := fun _ => L2.CX0) (sp := fun w => Law.spLaw _) rfl (by decide) rfl ⟨rfl, by decide, by decide⟩ (fun w h Y => PySem.W.kIn_of Y) ?F (fun _ _ a ns hl _ hS => ⟨a, ns, rfl, hS, hl, fun _ => rfl⟩) (fun _ _ _ _ _ h => h)
  case F =>
    intro w mg fa h KX G hmg
    refine' Law.fin hmg (Law.all_mk KX G ?a_cut ?l_cut ?e_cut ?k_cut ?a__law_cell ?l__law_cell ?e__law_cell ?k__law_cell ?a__law_text ?l__law_text ?e__law_text ?k__law_text ?a_law ?l_law ?e_law ?k_law ?a_PIECE_SIZE ?z_bool ?z_int ?z_isinstance ?z_len ?z_list ?z_range ?z_str)
    (case a_cut => k_is)
    (case l_cut => k_is)
    (case e_cut => k_is)
    (case k_cut => k_is)
    (case a__law_cell => k_is)
    (case l__law_cell => k_is)
    (case e__law_cell => k_is)
    (case k__law_cell => k_is)
    (case a__law_text => k_is)
    (case l__law_text => k_is)
    (case e__law_text => k_is)
    (case k__law_text => k_is)
    (case a_law => k_is)
    (case l_law => k_is)
    (case e_law => k_is)
    (case k_law => k_is)
    (case a_PIECE_SIZE => k_is)
    (case z_bool => k_is)
    (case z_int => k_is)
    (case z_isinstance => k_is)
    (case z_len => k_is)
    (case z_list => k_is)
    (case z_range => k_is)
    (case z_str => k_is)

