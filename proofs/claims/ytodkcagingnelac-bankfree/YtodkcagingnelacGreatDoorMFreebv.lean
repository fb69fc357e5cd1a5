import Derived.Test.YtodkcagingnelacGreatDoorMFreebu
namespace Go.Proofs.YtodkcagingnelacGreatDoor.Bn
open Go.RowKit Go.Proofs.YtodkcagingnelacGreatDoor.Gn Go.Maps
structure Keep (w : World) (g m : Nat) (lab : Lab) (b : Bank) (T : List (Dd × An)) (v : Vs) (cs : List CV) (ds : List DV) (n : Nat) (D : DataW Unit) : Prop where
  shown : Shown w lab b v cs ds
  blk : w.heap[g]? = some (blkB b v (.map (some m)))
  lg : lab g = 9
  owns : OwnsT w m n D
  few : n ≤ T.length
  tld : Tld T D
  lm : lab m = 10
  labs : ∀ k, lab k = 0 ∨ 8 < lab k
  oth : Oth w
  l0 : lab 0 = 0
theorem Keep.gm {w : World} {g m : Nat} {lab : Lab} {b : Bank} {T : List (Dd × An)} {v : Vs} {cs : List CV} {ds : List DV} {n : Nat} {D : DataW Unit} (K : Keep w g m lab b T v cs ds n D) : g ≠ m := fun h => by
  have h1 := K.lg
  have h2 := K.lm
  rw [h] at h1
  omega
theorem owns_keep' {w w' : World} {m n : Nat} {D : DataW Unit} (h : OwnsT w m n D) (hk : w'.heap[m]? = w.heap[m]?) : OwnsT w' m n D := by
  obtain ⟨es, clock, hb, r⟩ := h
  exact ⟨es, clock, hk.trans hb, r⟩
theorem Keep.below {w w' : World} {g m : Nat} {lab : Lab} {b : Bank} {T : List (Dd × An)} {v : Vs} {cs : List CV} {ds : List DV} {n : Nat} {D : DataW Unit} (K : Keep w g m lab b T v cs ds n D) (hb : Below w.heap.size w w') {j : Nat} (hj : j = 0 ∨ 10 < j) : Keep w' g m (relab lab w.heap.size j) b T v cs ds n D := by
  have kg := lt_of_block K.blk
  have km := K.owns.lt
  have k0 := K.oth.lt
  refine ⟨K.shown.go hb.size (fun k hk => relab_old hk) fun k hk _ => hb.block k hk, (hb.block _ kg).trans K.blk, by rw [relab_old kg]; exact K.lg, owns_keep' K.owns (hb.block _ km), K.few, K.tld, by rw [relab_old km]; exact K.lm, fun k => ?_, K.oth.keep (hb.block 0 k0), by rw [relab_old k0]; exact K.l0⟩
  by_cases hk : k < w.heap.size
  · rw [relab_old hk]; exact K.labs k
  · rw [relab_new (by omega)]; omega
theorem Keep.drew {w : World} {g m : Nat} {lab : Lab} {b : Bank} {T : List (Dd × An)} {v : Vs} {cs : List CV} {ds : List DV} {n : Nat} {D : DataW Unit} (K : Keep w g m lab b T v cs ds n D) : Keep w.drew g m lab b T v cs ds n D :=
  ⟨K.shown.go (Nat.le_refl _) (fun _ _ => rfl) (fun _ _ _ => rfl), K.blk, K.lg, K.owns.drew, K.few, K.tld, K.lm, K.labs, K.oth.keep rfl, K.l0⟩
/-- Labels that say less. -/
theorem ap_lab {α : Type} {K : Kind α} {lab lab' : Lab} {w : World} {v : Value} {L : List α} (h : Ap K lab w v L 0) (hl : ∀ k, lab k = 0 → lab' k = 0) : Ap K lab' w v L 0 := by
  obtain ⟨a, cap, hv, hl2, hb⟩ := h
  exact ⟨a, cap, hv, hl2, fun ad ha hn => hl _ (hb ad ha hn)⟩
theorem Shown.lab {w : World} {lab lab' : Lab} {b : Bank} {v : Vs} {cs : List CV} {ds : List DV} (h : Shown w lab b v cs ds) (hl : ∀ k, lab k = 0 → lab' k = 0) : Shown w lab' b v cs ds :=
  ⟨ap_lab h.cards hl, h.csv, fun x hx => ap_lab (h.uses x hx) hl, ap_lab h.due hl, ap_lab h.auths hl, fun i => ap_lab (h.kept i) hl, fun i => ap_lab (h.ways i) hl, ap_lab h.used hl, ap_lab h.adv hl, ap_lab h.today hl, ap_lab h.days hl, h.dsv, fun x hx => ap_lab (h.files x hx) hl, ap_lab h.book hl⟩
/-- The bank takes the place of the elder one. -/
theorem Keep.put {w : World} {g m : Nat} {lab : Lab} {b b' : Bank} {T : List (Dd × An)} {v v' : Vs} {cs cs' : List CV} {ds ds' : List DV} {n : Nat} {D : DataW Unit} (K : Keep w g m lab b T v cs ds n D) (S : Shown w lab b' v' cs' ds') :
    Keep (putAll w g 0 (cellsK b' v').toList) g m lab b' T v' cs' ds' n D := by
  have hs : (putAll w g 0 (cellsK b' v').toList).heap.size = w.heap.size := putAll_size _ _ _ _
  have ho : ∀ k, k ≠ g → (putAll w g 0 (cellsK b' v').toList).heap[k]? = w.heap[k]? := fun k hk => putAll_other _ _ _ _ _ hk
  refine ⟨S.go (by rw [hs]; exact Nat.le_refl _) (fun _ _ => rfl) fun k _ h0 => ho k (fun e => by rw [e, K.lg] at h0; cases h0), blk_all K.blk, K.lg, owns_keep' K.owns (ho m (fun e => K.gm e.symm)), K.few, K.tld, K.lm, K.labs, K.oth.keep (ho 0 (fun e => by have h1 := K.l0; have h2 := K.lg; rw [← e] at h2; omega)), K.l0⟩
/-- The map is told. -/
theorem Keep.tell {w w' : World} {g m : Nat} {lab : Lab} {b : Bank} {T T' : List (Dd × An)} {v : Vs} {cs : List CV} {ds : List DV} {n : Nat} {D D' : DataW Unit} (K : Keep w g m lab b T v cs ds n D) (hg : w.grownBy w' (some m)) (O : OwnsT w' m (n + 1) D') (t : Tld T' D') (hT : T'.length = T.length + 1) : Keep w' g m lab b T' v cs ds (n + 1) D' := by
  have ho : ∀ k, k < w.heap.size → k ≠ m → w'.heap[k]? = w.heap[k]? := fun k hk hn => hg.block k hk (fun e => hn (by injection e))
  have kg := lt_of_block K.blk
  refine ⟨K.shown.go hg.size (fun _ _ => rfl) fun k hk h0 => ho k hk (fun e => by rw [e, K.lm] at h0; cases h0), (ho g kg K.gm).trans K.blk, K.lg, O, by have := K.few; omega, t, K.lm, K.labs, K.oth.keep (ho 0 K.oth.lt (fun e => by have h1 := K.l0; have h2 := K.lm; rw [← e] at h2; omega)), K.l0⟩
/-- The log grows. -/
theorem Keep.log {w : World} {g m : Nat} {lab : Lab} {b : Bank} {T : List (Dd × An)} {v : Vs} {cs : List CV} {ds : List DV} {n : Nat} {D : DataW Unit} (K : Keep w g m lab b T v cs ds n D) (d : Dd) (a : An) (hd : d.id = 0 ∨ told d.id T ≠ none) : Keep w g m lab b (T ++ [(d, a)]) v cs ds n D :=
  ⟨K.shown, K.blk, K.lg, K.owns, by have := K.few; simp; omega, K.tld.more d a hd, K.lm, K.labs, K.oth, K.l0⟩
/-- A box of the call's own is written to. -/
theorem Keep.box {w : World} {g m : Nat} {lab : Lab} {b : Bank} {T : List (Dd × An)} {v : Vs} {cs : List CV} {ds : List DV} {n : Nat} {D : DataW Unit} (K : Keep w g m lab b T v cs ds n D) {z : Nat} (hz : 10 < lab z) (i : Nat) (x : Value) : Keep (w.setCell ⟨z, i, none⟩ x) g m lab b T v cs ds n D := by
  have ho : ∀ k, k ≠ z → (w.setCell ⟨z, i, none⟩ x).heap[k]? = w.heap[k]? := fun k hk => heap_setCell_other _ _ _ _ hk
  have n0 : ∀ k, lab k ≤ 10 → k ≠ z := fun k hk e => by rw [e] at hk; omega
  refine ⟨K.shown.go (by simp) (fun _ _ => rfl) fun k _ h0 => ho k (n0 k (by omega)), (ho g (n0 g (by rw [K.lg]; decide))).trans K.blk, K.lg, owns_keep' K.owns (ho m (n0 m (by rw [K.lm]; decide))), K.few, K.tld, K.lm, K.labs, K.oth.keep (ho 0 (n0 0 (by rw [K.l0]; decide))), K.l0⟩
/-- In the end new memory is as old memory. -/
theorem Keep.done {w w0 : World} {g m : Nat} {lab : Lab} {b : Bank} {T : List (Dd × An)} {v : Vs} {cs : List CV} {ds : List DV} {n : Nat} {D : DataW Unit} (K : Keep w g m (relab lab w0.heap.size 11) b T v cs ds n D) (hg : g < w0.heap.size) (hm : m < w0.heap.size) (hl : ∀ k, lab k = 0 ∨ 8 < lab k) (h0 : 0 < w0.heap.size) : Keep w g m (relab lab w0.heap.size 0) b T v cs ds n D := by
  refine ⟨K.shown.lab fun k hk => ?_, K.blk, by have := K.lg; rw [relab_old hg] at this ⊢; exact this, K.owns, K.few, K.tld, by have := K.lm; rw [relab_old hm] at this ⊢; exact this, fun k => ?_, K.oth, by have := K.l0; rw [relab_old h0] at this ⊢; exact this⟩
  · by_cases q : k < w0.heap.size
    · rw [relab_old q] at hk ⊢; exact hk
    · exact relab_new (by omega)
  · by_cases q : k < w0.heap.size
    · rw [relab_old q]; exact hl k
    · rw [relab_new (by omega)]; exact Or.inl rfl
/-- Of old memory only two blocks are written to. -/
structure Fm (w w' : World) (g m : Nat) : Prop where
  os : w'.os = w.os
  tape : w'.tape = w.tape
  output : w'.output = w.output
  size : w.heap.size ≤ w'.heap.size
  block : ∀ k, k < w.heap.size → k ≠ g → k ≠ m → w'.heap[k]? = w.heap[k]?
theorem fm_below {w w' : World} (h : Below w.heap.size w w') (g m : Nat) : Fm w w' g m := ⟨h.os, h.tape, h.output, h.size, fun k hk _ _ => h.block k hk⟩
theorem Fm.below {w w1 w2 : World} {g m : Nat} (h : Fm w w1 g m) (hb : Below w.heap.size w1 w2) : Fm w w2 g m := ⟨hb.os.trans h.os, hb.tape.trans h.tape, hb.output.trans h.output, Nat.le_trans h.size hb.size, fun k hk a c => (hb.block k hk).trans (h.block k hk a c)⟩
theorem Fm.put {w w1 : World} {g m : Nat} (h : Fm w w1 g m) (l : List Value) : Fm w (putAll w1 g 0 l) g m :=
  have hb := below_putAll (Below.refl 0 w1) g 0 l (Nat.zero_le _)
  ⟨hb.os.trans h.os, hb.tape.trans h.tape, hb.output.trans h.output, by rw [putAll_size]; exact h.size, fun k hk a c => (putAll_other _ _ _ _ _ a).trans (h.block k hk a c)⟩
theorem Fm.map {w w1 w2 : World} {g m : Nat} (h : Fm w w1 g m) (hg : w1.grownBy w2 (some m)) : Fm w w2 g m := ⟨hg.os.trans h.os, hg.tape.trans h.tape, hg.output.trans h.output, Nat.le_trans h.size hg.size, fun k hk a c => (hg.block k (Nat.lt_of_lt_of_le hk h.size) (fun e => c (by injection e))).trans (h.block k hk a c)⟩
theorem Fm.stq {w w' : World} {g m : Nat} {lab : Lab} (h : Fm w w' g m) (hg : lab g = 9) (hm : lab m = 10) : Stq w lab w' (Bn.relab lab w.heap.size 0) :=
  ⟨fun _ hk => relab_old hk, h.os, h.tape, h.output, h.size, fun k hk hl => h.block k hk (fun e => by rw [e, hg] at hl; omega) (fun e => by rw [e, hm] at hl; omega)⟩
/-- Other labels. -/
theorem Keep.relab {w : World} {g m : Nat} {lab lab' : Lab} {b : Bank} {T : List (Dd × An)} {v : Vs} {cs : List CV} {ds : List DV} {n : Nat} {D : DataW Unit} (K : Keep w g m lab b T v cs ds n D) (hl : ∀ k, lab k = 0 → lab' k = 0) (hg : lab' g = 9) (hm : lab' m = 10) (ha : ∀ k, lab' k = 0 ∨ 8 < lab' k) : Keep w g m lab' b T v cs ds n D :=
  ⟨K.shown.lab hl, K.blk, hg, K.owns, K.few, K.tld, hm, ha, K.oth, hl 0 K.l0⟩
theorem built_g (b : Bank) (v : Vs) : Tryz.prog.built 93 [(0, .agg (cellsK b v))] = some (cellsB b v (.map none)) := by kernel_rfl
theorem infoG : (Tryz.prog.info? 93).map (·.size) = some 20 := by kernel_rfl
theorem oneG {b : Bank} {v : Vs} (h : (cellsK b v).all (·.oneCell') = true) : (cellsB b v (.map none)).all (·.oneCell') = true := by
  have e : (cellsB b v (.map none)).toList = (cellsK b v).toList ++ [.map none] := rfl
  rw [← Array.all_toList, e, List.all_append]
  rw [← Array.all_toList] at h
  rw [h]
  rfl
theorem few_of {b : Bank} {cs : List CV} {ds : List DV} (I : Inv b) (hc : cs.map CV.c = b.cards) (hd : ds.map DV.l = b.days) (hy : b.days.length ≤ 1000000) : Few b cs ds := by
  have h1 : cs.length = b.cards.length := by rw [← hc]; simp
  have h2 : ds.length = b.days.length := by rw [← hd]; simp
  have c8 := I.held.cards8
  have d8 := I.held.due8
  have fw := I.held.few
  have td := I.held.today.1
  exact ⟨by omega, by omega, by omega, fun i => by have := I.sent.way60 i; omega, by omega, by omega⟩
theorem wpList_build_g {w : World} {ops : Array Oper} {rest : List Oper} {o : Oper} {a : Act} {Q : Exit → Act → World → Prop} (hg : o.guard = none) (x : Operand) (ho : o.op = .build 93 #[(0, x)]) (b : Bank) (v : Vs) (hx : a.eval x = .agg (cellsK b v)) (h : wpList Tryz.prog ops Q rest (a.put o.dst (.agg (cellsB b v (.map none)))) w) : wpList Tryz.prog ops Q (o :: rest) a w := by
  have e : (Tryz.prog.built 93 ((#[(0, x)] : Array (Nat × Operand)).map fun (i, x) => (i, a.eval x)).toList) = some (cellsB b v (.map none)) := by
    have : ((#[(0, x)] : Array (Nat × Operand)).map fun (i, x) => (i, a.eval x)).toList = [(0, .agg (cellsK b v))] := by simp [hx]
    rw [this]
    exact built_g b v
  refine wpList_build hg 93 #[(0, x)] ho (by rw [e]; rfl) ?_
  rw [e]
  exact h
theorem there_new (w : World) (cs : Array Value) (hs : cs.size = 20) (b : Bank) (v : Vs) : (w.alloc (.cells cs 93)).there w.heap.size 0 (cellsB b v (.map none)).size := there_blk (heap_alloc_at _ _ _ rfl) (by rw [hs]; exact Nat.le_refl 20)
/-- The block of a bank that goes on, new. -/
theorem blk_new {w : World} {b : Bank} {v : Vs} {cs : Array Value} (hs : cs.size = 20) : ((w.alloc (.cells cs 93)).setCells w.heap.size 0 (cellsB b v (.map none)).toList).heap[w.heap.size]? = some (blkB b v (.map none)) := by
  rw [putAll_cells]
  have := putAll_same (cellsB b v (.map none)).toList (w.alloc (.cells cs 93)) w.heap.size [] cs.toList [] 93 (by simp [hs]; rfl) (by rw [heap_alloc_at _ _ _ rfl]; simp)
  refine Eq.trans this ?_
  unfold blkB
  simp
theorem below_new {w : World} (o : Obj) (l : List Value) : Below w.heap.size w ((w.alloc o).setCells w.heap.size 0 l) := by
  rw [putAll_cells]
  exact below_putAll (below_alloc w o) w.heap.size 0 l (Nat.le_refl _)
/-- A copy of the bank, of its own. -/
theorem own_goes {w3 W4 : World} {lab3 : Lab} {base : Nat} {b : Bank} {v : Vs} {cs : List CV} {ds : List DV} (M : Mem w3 lab3 base b v cs ds) (hT : ∀ i, Tp kP 106 lab3 base w3 (v.wy i) (b.way i) (wl i)) (hb : Below w3.heap.size w3 W4) (hblk : W4.heap[w3.heap.size]? = some (blkB b v (.map none))) : GoesF W4 w3.heap.size base (relab lab3 w3.heap.size 1) b (.map none) := by
  have ho : Only lab3 1 w3 W4 := only_below hb
  exact ⟨v, cs, ds, ⟨M.on ho (Or.inr rfl), hblk, relab_new (Nat.le_refl _)⟩, fun i => (hT i).move ho (Or.inr (by cases i <;> decide))⟩
end Go.Proofs.YtodkcagingnelacGreatDoor.Bn
namespace Go.Proofs.YtodkcagingnelacGreatDoor.Bn
open Go.RowKit Go.Proofs.YtodkcagingnelacGreatDoor.Gn Go.Maps
theorem look_all {W : World} {m n : Nat} {D : DataW Unit} {T : List (Dd × An)} (O : OwnsT W m n D) (t : Tld T D) {id : Int} (h1 : -9223372036854775808 ≤ id) (h2 : id ≤ 9223372036854775807) :
    (Instr.lookup 91 (.map (some m)) (.int .i64 id) true).run Tryz.prog W.drew = .ok (.tuple #[anv ((heard T id).getD (0, 0)), .bool (heard T id).isSome]) W.drew ∧
    ∀ o, (Instr.lookup 91 (.map (some m)) (.int .i64 id) true).run Tryz.prog (W.alloc o).drew = .ok (.tuple #[anv ((heard T id).getD (0, 0)), .bool (heard T id).isSome]) (W.alloc o).drew :=
  ⟨told_look O.drew t h1 h2, fun o => told_look (O.alloc o).drew t h1 h2⟩
/-- What hear answers. -/
def Hears (w : World) (g m : Nat) (lab : Lab) (b' : Bank) (T' : List (Dd × An)) (a : An) (e : Ending) (w' : World) : Prop := e = .returned (anv a) ∧ ∃ lab' v' cs' ds' n' D', Keep w' g m lab' b' T' v' cs' ds' n' D' ∧ Stq w lab w' lab'
set_option maxRecDepth 10000 in
set_option maxHeartbeats 1000000 in
theorem hear_told (g m : Nat) (lab : Lab) (b : Bank) (T : List (Dd × An)) (v : Vs) (cs : List CV) (ds : List DV) (n : Nat) (D : DataW Unit) (d : Dd) (a : An) (w : World) (K : Keep w g m lab b T v cs ds n D) (h1 : -9223372036854775808 ≤ d.id) (h2 : d.id ≤ 9223372036854775807) (ha : heard T d.id = some a) :
    Calls Tryz.prog 39 #[.pointer (some ⟨g, 0, none⟩), ddv d] w (Hears w g m lab b (T ++ [(d, a)]) a) := by
  have e1 := below_alloc w (ddo d)
  have e2 := below_alloc (w.alloc (ddo d)) (ano (0, 0))
  have e3 := below_alloc ((w.alloc (ddo d)).alloc (ano (0, 0))) (ano a)
  have hb12 := e1.trans (e2.mono (by simp))
  have hb := hb12.trans (e3.mono (by simp; omega))
  have K1 := K.below hb12 (j := 11) (Or.inr (by decide))
  have K3 := K.below hb (j := 11) (Or.inr (by decide))
  have hd0 : ((w.alloc (ddo d)).alloc (ano (0, 0))).heap[w.heap.size]? = some (ddo d) := (e2.block _ (by simp)).trans (heap_alloc_at _ _ _ rfl)
  have hr0 : (((w.alloc (ddo d)).alloc (ano (0, 0))).alloc (ano a)).heap[w.heap.size + 1]? = some (ano (0, 0)) := (e3.block _ (by simp)).trans (heap_alloc_at _ _ _ (by simp))
  have ha0 : (((w.alloc (ddo d)).alloc (ano (0, 0))).alloc (ano a)).heap[w.heap.size + 2]? = some (ano a) := heap_alloc_at _ _ _ (by simp)
  have hlk := look_all K1.owns K1.tld h1 h2
  rw [ha] at hlk
  obtain ⟨lk0, lk1⟩ := hlk
  simp only [Option.getD_some, Option.isSome_some] at lk0 lk1
  have hdd : d.id = 0 ∨ told d.id T ≠ none := by
    unfold heard at ha
    by_cases q : d.id = 0
    · exact Or.inl q
    · rw [if_neg q] at ha; rw [ha]; exact Or.inr (by simp)
  have kg := lt_of_block K.blk
  have km := K.owns.lt
  have k0 := K.oth.lt
  have klabs := K.labs
  obtain ⟨d0, d1, d2, d3, d4, d5⟩ := ddo_cells hd0
  obtain ⟨-, -, -, -, -, -, -, -, -, -, -, -, -, -, -, -, -, -, -, ct⟩ := blk_cells K1.blk
  have K3' := K3.log d a hdd
  have hsz : ((w.alloc (ddo d)).alloc (ano (0, 0))).heap.size = w.heap.size + 2 := by simp
  have gl := lt_of_block K1.blk
  clear e1 e2 e3 hb12 K1 K3 K ha hdd
  unfold anv at lk0 lk1
  obtain ⟨W, hW⟩ : ∃ W, (w.alloc (ddo d)).alloc (ano (0, 0)) = W := ⟨_, rfl⟩
  rw [hW] at d0 d1 d2 d3 d4 d5 ct lk0 lk1 hr0 ha0 K3' hb hd0 hsz gl
  unfold ddo ano at hW
  have zl := lt_of_block hd0
  replace hsz := hid hsz
  unfold ddv
  unfold ano at ha0 K3' hb hr0
  dsimp only at hW ha0 K3' hb hr0
  go_enter Tryz.func39, Tryz.ntmps39
  go_upto_region 1 with fail
  try rw [hW]
  clear hW hd0
  go_region
  have K4 := K3'.drew
  have hbY := hb.drew
  rw [← heap_drew] at ha0 hr0
  rw [← hsz.out] at ha0
  generalize (W.alloc (.cells #[.int .i64 a.1, .int .i64 a.2] 53)).drew = Y at *
  clear K3' hb lk0 lk1 ct d0 d1 d2 d3 d4 d5
  obtain ⟨y0, y1, -⟩ := ano_cells (a := a) ha0
  obtain ⟨r0, r1, rf⟩ := ano_cells (a := (0, 0)) hr0
  have rf0 := rf 0
  have rf1 := rf 1
  have hF := ano_put (x := (0, 0)) (a := a) hr0
  have l11 : 10 < relab lab w.heap.size 11 (w.heap.size + 1) := by rw [relab_new (by omega)]; decide
  have K5 := ((K4.box l11 0 (.int .i64 a.1)).box l11 1 (.int .i64 a.2)).done kg km klabs k0
  have hbF := (hbY.setCell (p := ⟨w.heap.size + 1, 0, none⟩) (by simp) (.int .i64 a.1)).setCell (p := ⟨w.heap.size + 1, 1, none⟩) (by simp) (.int .i64 a.2)
  clear rf K4 hbY
  go_wp2_with fail
  generalize (Y.setCell ⟨w.heap.size + 1, 0, none⟩ (.int .i64 a.1)).setCell ⟨w.heap.size + 1, 1, none⟩ (.int .i64 a.2) = Z at *
  have hres := loadVar_an hF
  exact bodyPost_ret (v := anv a) (results_cell Tryz.results39 rfl hres) rfl ⟨rfl, _, _, _, _, _, _, K5, stq_below hbF 0⟩
end Go.Proofs.YtodkcagingnelacGreatDoor.Bn
