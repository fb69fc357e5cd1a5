import Derived.Test.YtodkcagingnelacGreatDoorMFreeau
import Derived.Test.YtodkcagingnelacGreatDoorMFreebo
import Derived.Test.YtodkcagingnelacGreatDoorMFreebv
namespace Go.Proofs.YtodkcagingnelacGreatDoor.Bn
open Go.RowKit Go.Proofs.YtodkcagingnelacGreatDoor.Gn Go.Maps
set_option maxRecDepth 10000 in
set_option maxHeartbeats 400000 in
theorem hear_new {K : Nat} (g m : Nat) (lab : Lab) (b : Bank) (T : List (Dd × An)) (v : Vs) (cs : List CV) (ds : List DV) (n : Nat) (D : DataW Unit) (d : Dd) (w : World) (Kp : Keep w g m lab b T v cs ds n D) (h1 : -9223372036854775808 ≤ d.id) (h2 : d.id ≤ 9223372036854775807) (ha : heard T d.id = none) (Rd : Ready K b) (hT : T.length ≤ 1000000) :
    Calls Tryz.prog 39 #[.pointer (some ⟨g, 0, none⟩), ddv d] w (Hears w g m lab (doB b d).1 (T ++ [(d, (doB b d).2)]) (doB b d).2) := by
  have e1 := below_alloc w (ddo d)
  have e2 := below_alloc (w.alloc (ddo d)) (ano (0, 0))
  have e3 := below_alloc ((w.alloc (ddo d)).alloc (ano (0, 0))) (ano (0, 0))
  have hb12 := e1.trans (e2.mono (by simp))
  have hb := hb12.trans (e3.mono (by simp; omega))
  have K1 := Kp.below hb12 (j := 11) (Or.inr (by decide))
  have K3 := Kp.below hb (j := 11) (Or.inr (by decide))
  have hd0 : ((w.alloc (ddo d)).alloc (ano (0, 0))).heap[w.heap.size]? = some (ddo d) := (e2.block _ (by simp)).trans (heap_alloc_at _ _ _ rfl)
  have hd1 : (((w.alloc (ddo d)).alloc (ano (0, 0))).alloc (ano (0, 0))).heap[w.heap.size]? = some (ddo d) := (e3.block _ (by simp; omega)).trans hd0
  have hr0 : (((w.alloc (ddo d)).alloc (ano (0, 0))).alloc (ano (0, 0))).heap[w.heap.size + 1]? = some (ano (0, 0)) := (e3.block _ (by simp)).trans (heap_alloc_at _ _ _ (by simp))
  have hlk := look_all K1.owns K1.tld h1 h2
  rw [ha] at hlk
  obtain ⟨lk0, lk1⟩ := hlk
  simp only [Option.getD_none, Option.isSome_none] at lk0 lk1
  have kg := lt_of_block Kp.blk
  have km := Kp.owns.lt
  have k0 := Kp.oth.lt
  have klabs := Kp.labs
  have klg := Kp.lg
  have klm := Kp.lm
  obtain ⟨d0, d1, d2, d3, d4, d5⟩ := ddo_cells hd0
  obtain ⟨-, -, -, -, -, -, -, -, -, -, -, -, -, -, -, -, -, -, -, ct⟩ := blk_cells K1.blk
  have hF : Few b cs ds := few_of Rd.inv Kp.shown.csv Kp.shown.dsv Rd.days
  have gl := lt_of_block K1.blk
  clear e1 e2 e3 hb12 K1 Kp
  unfold anv at lk0 lk1
  obtain ⟨W, hW⟩ : ∃ W, (w.alloc (ddo d)).alloc (ano (0, 0)) = W := ⟨_, rfl⟩
  rw [hW] at d0 d1 d2 d3 d4 d5 ct lk0 lk1 hr0 hd1 K3 hb hd0 gl
  unfold ddo ano at hW
  have zl := lt_of_block hd0
  unfold ddv
  unfold ano at K3 hb hr0 hd1
  dsimp only at hW K3 hb hr0 hd1 lk0 lk1
  go_enter Tryz.func39, Tryz.ntmps39
  go_upto_region 1 with fail
  try rw [hW]
  clear hW hd0
  go_region
  have KY := K3.drew
  have hbY := hb.drew
  rw [← heap_drew] at hd1 hr0
  generalize (W.alloc (.cells #[.int .i64 0, .int .i64 0] 53)).drew = Y at *
  clear K3 hb lk0 lk1 ct d0 d1 d2 d3 d4 d5
  generalize hl1 : relab lab w.heap.size 11 = lab1 at *
  have hOwn := own_any b v cs ds lab1 Y KY.shown KY.labs hF
  rw [bkv_cells] at hOwn
  simp only [bkv_cells] at hOwn
  obtain ⟨dK, uK, rK⟩ := underK
  have hrange := blk_load KY.blk
  go_upto_region 5 with (first
    | (refine wpList_load_mid rfl 43 _ rfl g 0 rfl (cellsK b v).toList dK hrange uK rK infoK ?_)
    | (go_at_call 70; refine hOwn.mono ?_; rintro e w3 ⟨v3, lab3, rfl, M3, T3, hb3, hx3⟩; have hone := hid (oneG (M3.shown (lab0 := lab3) (fun _ _ => rfl)).one))
    | (refine wpList_build_g rfl _ rfl b v3 rfl ?_)
    | (refine wpList_store_mid rfl 93 _ _ rfl w3.heap.size 0 (cellsB b v3 (.map none)) rfl rfl (there_new w3 _ rfl b v3) infoG hone.out ?_))
  have hb4 := below_new (w := w3) (.cells #[.int .i64 0, .bool false, .slice none 0 0, .slice none 0 0, .slice none 0 0, .int .i64 0, .slice none 0 0, .int .i64 0, .slice none 0 0, .int .i64 0, .int .i64 0, .slice none 0 0, .slice none 0 0, .int .i64 0, .slice none 0 0, .slice none 0 0, .slice none 0 0, .slice none 0 0, .slice none 0 0, .map none] 93) (cellsB b v3 (.map none)).toList
  have blk4 := blk_new (w := w3) (b := b) (v := v3) (cs := #[.int .i64 0, .bool false, .slice none 0 0, .slice none 0 0, .slice none 0 0, .int .i64 0, .slice none 0 0, .int .i64 0, .slice none 0 0, .int .i64 0, .int .i64 0, .slice none 0 0, .slice none 0 0, .int .i64 0, .slice none 0 0, .slice none 0 0, .slice none 0 0, .slice none 0 0, .slice none 0 0, .map none]) rfl
  generalize (w3.alloc (.cells #[.int .i64 0, .bool false, .slice none 0 0, .slice none 0 0, .slice none 0 0, .int .i64 0, .slice none 0 0, .int .i64 0, .slice none 0 0, .int .i64 0, .int .i64 0, .slice none 0 0, .slice none 0 0, .int .i64 0, .slice none 0 0, .slice none 0 0, .slice none 0 0, .slice none 0 0, .slice none 0 0, .map none] 93)).setCells w3.heap.size 0 (cellsB b v3 (.map none)).toList = Y4 at hb4 blk4 ⊢
  have G4 := own_goes M3 T3 hb4 blk4
  have hbY4 : Below Y.heap.size Y Y4 := hb3.trans (hb4.mono hb3.size)
  have O4 := KY.oth.keep (hbY4.block 0 KY.oth.lt)
  have hx4 : ∀ k, k < Y.heap.size → relab lab3 w3.heap.size 1 k = lab1 k := fun k hk => by rw [relab_old (Nat.lt_of_lt_of_le hk hb3.size)]; exact hx3 k hk
  have l40 : relab lab3 w3.heap.size 1 0 = 0 := by rw [hx4 0 KY.oth.lt]; exact KY.l0
  have hd4 : Y4.heap[w.heap.size]? = some (ddo d) := (hbY4.block _ (lt_of_block hd1)).trans hd1
  obtain ⟨d0, d1, d2, d3, d4, d5⟩ := ddo_cells hd4
  have hDo := gdo w3.heap.size Y.heap.size _ b (.map none) d Y4 G4 Rd O4 l40
  have hRef := doB_refused b d
  have hi4 : ∀ k, 1 ≤ relab lab3 w3.heap.size 1 k → relab lab3 w3.heap.size 1 k ≤ 8 → Y.heap.size ≤ k := by
    obtain ⟨v4, cs4, ds4, H4, -⟩ := G4
    exact H4.mem.hi
  have hlo4 : Y.heap.size ≤ Y4.heap.size := hbY4.size
  unfold DoneA ddv anv at hDo
  generalize doB b d = R at *
  clear G4 M3 T3 hb4 blk4 hone hrange hOwn hb3 O4 l40 hd4
  generalize relab lab3 w3.heap.size 1 = lab4 at *
  go_upto_region 6 with (go_at_call 71; refine hDo.mono ?_; rintro e w5 ⟨rfl, lab5, S5, g5⟩)
  have hb5 : Below Y.heap.size Y4 w5 := S5.below hlo4 hi4
  have hb6 := below_alloc w5 (.cells #[.int .i64 R.2.1, .int .i64 R.2.2] 53)
  have hbY6 : Below Y.heap.size Y (w5.alloc (.cells #[.int .i64 R.2.1, .int .i64 R.2.2] 53)) := (hbY4.trans hb5).trans (hb6.mono (Nat.le_trans hlo4 S5.size))
  have ha6 : (w5.alloc (.cells #[.int .i64 R.2.1, .int .i64 R.2.2] 53)).heap[w5.heap.size]? = some (ano R.2) := heap_alloc_at _ _ _ rfl
  have S6 : R.2.1 = 0 → ∃ v' cs' ds', Shown (w5.alloc (.cells #[.int .i64 R.2.1, .int .i64 R.2.2] 53)) (relab lab1 Y.heap.size 0) R.1 v' cs' ds' ∧ (w5.alloc (.cells #[.int .i64 R.2.1, .int .i64 R.2.2] 53)).heap[w3.heap.size]? = some (blkB R.1 v' (.map none)) := fun h0 => by
    obtain ⟨v', cs', ds', H5⟩ := g5 h0
    refine ⟨v', cs', ds', ?_, (hb6.block _ (lt_of_block H5.blk)).trans H5.blk⟩
    have sh := H5.mem.shown (lab0 := lab1) (fun k hk => (S5.ext k (Nat.lt_of_lt_of_le hk hlo4)).trans (hx4 k hk))
    exact sh.go hb6.size (fun _ _ => rfl) fun k hk _ => hb6.block k hk
  have zge : w.heap.size ≤ w5.heap.size := Nat.le_trans (Nat.le_trans hbY.size hlo4) S5.size
  generalize w5.alloc (.cells #[.int .i64 R.2.1, .int .i64 R.2.2] 53) = Y6 at *
  generalize w5.heap.size = z8 at *
  have K6 := KY.below hbY6 (j := 0) (Or.inl rfl)
  have hd6 : Y6.heap[w.heap.size]? = some (ddo d) := (hbY6.block _ (lt_of_block hd1)).trans hd1
  have hr6 : Y6.heap[w.heap.size + 1]? = some (ano (0, 0)) := (hbY6.block _ (lt_of_block hr0)).trans hr0
  have F6 : Fm w Y6 g m := (fm_below hbY g m).below (hbY6.mono hbY.size)
  have zlY := lt_of_block hr0
  have l11 : 10 < relab lab1 Y.heap.size 0 (w.heap.size + 1) := by rw [relab_old zlY, ← hl1, relab_new (by omega)]; decide
  have fin : ∀ {Z : World} {b' : Bank} {T' : List (Dd × An)} {v' : Vs} {cs' : List CV} {ds' : List DV} {n' : Nat} {D' : DataW Unit}, Keep Z g m (relab lab1 Y.heap.size 0) b' T' v' cs' ds' n' D' → Keep Z g m (relab lab w.heap.size 0) b' T' v' cs' ds' n' D' := fun Kz => Kz.relab (fun k hk => by
      by_cases q : k < w.heap.size
      · rw [relab_old (Nat.lt_of_lt_of_le q hbY.size), ← hl1, relab_old q] at hk
        rw [relab_old q]; exact hk
      · exact relab_new (by omega)) (by rw [relab_old kg]; exact klg) (by rw [relab_old km]; exact klm) (fun k => by
      by_cases q : k < w.heap.size
      · rw [relab_old q]; exact klabs k
      · rw [relab_new (by omega)]; exact Or.inl rfl)
  generalize relab lab1 Y.heap.size 0 = lab6 at *
  have zg : w.heap.size ≠ g := by omega
  have zg1 : w.heap.size + 1 ≠ g := by omega
  have zg8 : z8 ≠ g := by omega
  have zm : w.heap.size ≠ m := by omega
  have zm1 : w.heap.size + 1 ≠ m := by omega
  have zm8 : z8 ≠ m := by omega
  clear hb5 hb6 hbY6 hbY4 hbY KY S5 g5 hDo hd1 hr0 d0 d1 d2 d3 d4 d5 hx3 hx4 hi4 hlo4 zlY hl1 Rd hF zl gl
  obtain ⟨q0, q1, -⟩ := ano_cells ha6
  obtain ⟨d0, d1, d2, d3, d4, d5⟩ := ddo_cells hd6
  by_cases he : R.2.1 = 0
  · have he' : (R.2.1 == 0) = true := by simpa using he
    obtain ⟨v', cs', ds', SH, bl⟩ := S6 he
    have hrange := blk_load bl
    have hthere := blk_there (b' := R.1) (v' := v') K6.blk
    have hone := hid SH.one
    have K7 := K6.put SH
    have F7 := F6.put (cellsK R.1 v').toList
    have hd7 : (putAll Y6 g 0 (cellsK R.1 v').toList).heap[w.heap.size]? = some (ddo d) := (putAll_other _ _ _ _ _ zg).trans hd6
    have hr7 : (putAll Y6 g 0 (cellsK R.1 v').toList).heap[w.heap.size + 1]? = some (ano (0, 0)) := (putAll_other _ _ _ _ _ zg1).trans hr6
    have ha7 : (putAll Y6 g 0 (cellsK R.1 v').toList).heap[z8]? = some (ano R.2) := (putAll_other _ _ _ _ _ zg8).trans ha6
    clear S6 hRef he
    rw [← putAll_cells] at K7 F7 hd7 hr7 ha7
    clear K6 F6 hd6 hr6 ha6 SH bl
    go_upto_region 8 with (first
      | (refine wpList_load_mid rfl 43 _ rfl w3.heap.size 0 rfl (cellsK R.1 v').toList dK hrange uK rK infoK ?_)
      | (refine wpList_store_mid rfl 43 _ _ rfl g 0 (cellsK R.1 v') rfl rfl hthere infoK hone.out ?_))
    generalize Y6.setCells g 0 (cellsK R.1 v').toList = Y7 at *
    clear hrange hthere hone q0 q1 d0 d1 d2 d3 d4 d5
    obtain ⟨q0, q1, -⟩ := ano_cells ha7
    obtain ⟨d0, d1, d2, d3, d4, d5⟩ := ddo_cells hd7
    by_cases hid0 : d.id = 0
    · have hi0 : (d.id != 0) = false := by simpa using hid0
      have K8 := K7.log d R.2 (Or.inl hid0)
      clear K7
      obtain ⟨q0, q1, -⟩ := ano_cells ha7
      obtain ⟨r0, r1, rf⟩ := ano_cells hr7
      have rf0 := rf 0
      have rf1 := rf 1
      have hF := ano_put (a := R.2) hr7
      have K9 := fin ((K8.box l11 0 (.int .i64 R.2.1)).box l11 1 (.int .i64 R.2.2))
      have F9 := F7.below ((Below.refl w.heap.size _).setCell (p := ⟨w.heap.size + 1, 0, none⟩) (by simp) (.int .i64 R.2.1)) |>.below ((Below.refl w.heap.size _).setCell (p := ⟨w.heap.size + 1, 1, none⟩) (by simp) (.int .i64 R.2.2))
      clear rf fin l11 K8 F7 hr7 ha7
      go_wp2_with fail
      generalize (Y7.setCell ⟨w.heap.size + 1, 0, none⟩ (.int .i64 R.2.1)).setCell ⟨w.heap.size + 1, 1, none⟩ (.int .i64 R.2.2) = Z at *
      have hres := loadVar_an hF
      exact bodyPost_ret (v := anv R.2) (results_cell Tryz.results39 rfl hres) rfl ⟨rfl, _, _, _, _, _, _, K9, F9.stq klg klm⟩
    · have hi0 : (d.id != 0) = true := by simpa using hid0
      have htn : told d.id T = none := by unfold heard at ha; rw [if_neg hid0] at ha; exact ha
      obtain ⟨w8, hup, O8, hg8, hs8⟩ := told_put K7.owns.drew (by have := K7.few; omega) h1 h2 R.2
      have K8 := K7.drew.tell hg8 O8 (K7.tld.put d R.2 hid0 htn) (by simp)
      have F8 := (F7.below ((Below.refl _ _).drew)).map hg8
      have hd8 : w8.heap[w.heap.size]? = some (ddo d) := (hg8.block _ (lt_of_block hd7) (fun e => zm (by injection e))).trans hd7
      have hr8 : w8.heap[w.heap.size + 1]? = some (ano (0, 0)) := (hg8.block _ (lt_of_block hr7) (fun e => zm1 (by injection e))).trans hr7
      have ha8 : w8.heap[z8]? = some (ano R.2) := (hg8.block _ (lt_of_block ha7) (fun e => zm8 (by injection e))).trans ha7
      obtain ⟨-, -, -, -, -, -, -, -, -, -, -, -, -, -, -, -, -, -, -, ct⟩ := blk_cells K7.blk
      have gl := lt_of_block K7.blk
      unfold anv at hup
      clear O8 hg8 hs8 htn K7 F7
      go_upto_region 9 with fail
      go_region
      clear ct hup
      clear q0 q1 d0 d1 d2 d3 d4 d5 hd7 hr7 ha7
      obtain ⟨q0, q1, -⟩ := ano_cells ha8
      obtain ⟨r0, r1, rf⟩ := ano_cells hr8
      have rf0 := rf 0
      have rf1 := rf 1
      have hF := ano_put (a := R.2) hr8
      have K9 := fin ((K8.box l11 0 (.int .i64 R.2.1)).box l11 1 (.int .i64 R.2.2))
      have F9 := F8.below ((Below.refl w.heap.size _).setCell (p := ⟨w.heap.size + 1, 0, none⟩) (by simp) (.int .i64 R.2.1)) |>.below ((Below.refl w.heap.size _).setCell (p := ⟨w.heap.size + 1, 1, none⟩) (by simp) (.int .i64 R.2.2))
      clear rf fin l11 K8 F8 hr8 ha8
      go_wp2_with fail
      generalize (w8.setCell ⟨w.heap.size + 1, 0, none⟩ (.int .i64 R.2.1)).setCell ⟨w.heap.size + 1, 1, none⟩ (.int .i64 R.2.2) = Z at *
      have hres := loadVar_an hF
      exact bodyPost_ret (v := anv R.2) (results_cell Tryz.results39 rfl hres) rfl ⟨rfl, _, _, _, _, _, _, K9, F9.stq klg klm⟩
  · have he' : (R.2.1 == 0) = false := by simpa using he
    have hRb := hRef he
    have K7 : Keep Y6 g m lab6 R.1 T v cs ds n D := by rw [hRb]; exact K6
    replace hRb := hid hRb
    clear S6 hRef he K6
    by_cases hid0 : d.id = 0
    · have hi0 : (d.id != 0) = false := by simpa using hid0
      have K8 := K7.log d R.2 (Or.inl hid0)
      clear K7
      obtain ⟨q0, q1, -⟩ := ano_cells ha6
      obtain ⟨r0, r1, rf⟩ := ano_cells hr6
      have rf0 := rf 0
      have rf1 := rf 1
      have hF := ano_put (a := R.2) hr6
      have K9 := fin ((K8.box l11 0 (.int .i64 R.2.1)).box l11 1 (.int .i64 R.2.2))
      have F9 := F6.below ((Below.refl w.heap.size _).setCell (p := ⟨w.heap.size + 1, 0, none⟩) (by simp) (.int .i64 R.2.1)) |>.below ((Below.refl w.heap.size _).setCell (p := ⟨w.heap.size + 1, 1, none⟩) (by simp) (.int .i64 R.2.2))
      clear rf fin l11 K8 F6 hr6 ha6
      go_wp2_with fail
      generalize (Y6.setCell ⟨w.heap.size + 1, 0, none⟩ (.int .i64 R.2.1)).setCell ⟨w.heap.size + 1, 1, none⟩ (.int .i64 R.2.2) = Z at *
      have hres := loadVar_an hF
      exact bodyPost_ret (v := anv R.2) (results_cell Tryz.results39 rfl hres) rfl ⟨rfl, _, _, _, _, _, _, K9, F9.stq klg klm⟩
    · have hi0 : (d.id != 0) = true := by simpa using hid0
      have htn : told d.id T = none := by unfold heard at ha; rw [if_neg hid0] at ha; exact ha
      obtain ⟨w8, hup, O8, hg8, hs8⟩ := told_put K7.owns.drew (by have := K7.few; omega) h1 h2 R.2
      have K8 := K7.drew.tell hg8 O8 (K7.tld.put d R.2 hid0 htn) (by simp)
      have F8 := (F6.below ((Below.refl _ _).drew)).map hg8
      have hd8 : w8.heap[w.heap.size]? = some (ddo d) := (hg8.block _ (lt_of_block hd6) (fun e => zm (by injection e))).trans hd6
      have hr8 : w8.heap[w.heap.size + 1]? = some (ano (0, 0)) := (hg8.block _ (lt_of_block hr6) (fun e => zm1 (by injection e))).trans hr6
      have ha8 : w8.heap[z8]? = some (ano R.2) := (hg8.block _ (lt_of_block ha6) (fun e => zm8 (by injection e))).trans ha6
      obtain ⟨-, -, -, -, -, -, -, -, -, -, -, -, -, -, -, -, -, -, -, ct⟩ := blk_cells K7.blk
      have gl := lt_of_block K7.blk
      unfold anv at hup
      clear O8 hg8 hs8 htn K7 F6
      go_upto_region 9 with fail
      go_region
      clear ct hup
      clear q0 q1 d0 d1 d2 d3 d4 d5 hd6 hr6 ha6
      obtain ⟨q0, q1, -⟩ := ano_cells ha8
      obtain ⟨r0, r1, rf⟩ := ano_cells hr8
      have rf0 := rf 0
      have rf1 := rf 1
      have hF := ano_put (a := R.2) hr8
      have K9 := fin ((K8.box l11 0 (.int .i64 R.2.1)).box l11 1 (.int .i64 R.2.2))
      have F9 := F8.below ((Below.refl w.heap.size _).setCell (p := ⟨w.heap.size + 1, 0, none⟩) (by simp) (.int .i64 R.2.1)) |>.below ((Below.refl w.heap.size _).setCell (p := ⟨w.heap.size + 1, 1, none⟩) (by simp) (.int .i64 R.2.2))
      clear rf fin l11 K8 F8 hr8 ha8
      go_wp2_with fail
      generalize (w8.setCell ⟨w.heap.size + 1, 0, none⟩ (.int .i64 R.2.1)).setCell ⟨w.heap.size + 1, 1, none⟩ (.int .i64 R.2.2) = Z at *
      have hres := loadVar_an hF
      exact bodyPost_ret (v := anv R.2) (results_cell Tryz.results39 rfl hres) rfl ⟨rfl, _, _, _, _, _, _, K9, F9.stq klg klm⟩
end Go.Proofs.YtodkcagingnelacGreatDoor.Bn
namespace Go.Proofs.YtodkcagingnelacGreatDoor.Bn
open Go.RowKit Go.Proofs.YtodkcagingnelacGreatDoor.Gn
def kPa : Kind Pa where
  cells := fun p => [.int .i64 p.t, .int .i64 p.c, .int .i64 p.s]
  size := 3
  len := fun _ => rfl
  one := fun x u hu => by simp at hu; rcases hu with rfl | rfl | rfl <;> rfl
  pos := by decide
/-- A setup by value. -/
def suv (vp : Value) (shops cap : Int) : Value := .agg #[vp, .int .i64 shops, .int .i64 cap]
def suo (vp : Value) (shops cap : Int) : Obj := .cells #[vp, .int .i64 shops, .int .i64 cap] 24
def zPa : Pa := ⟨0, 0, 0⟩
def badGo (i : Nat) : List Pa → Int × Int
  | [] => (0, 0)
  | p :: r => if wrongP p ≠ 0 then (wrongP p, i) else badGo (i + 1) r
def setErr (ps : List Pa) (shops cap : Int) : Int × Int :=
  if 8 < ps.length ∨ shops < 0 ∨ 8 < shops then (5, 0) else if cap < 0 ∨ 1000000 < cap then (3, 0) else badGo 0 ps
theorem drop_pa {ps : List Pa} {k : Nat} (hk : k < ps.length) : ps.drop k = ps.getD k zPa :: ps.drop (k + 1) := by
  rw [List.drop_eq_getElem_cons hk]; simp [List.getD, hk]
theorem bad_hit {ps : List Pa} {k : Nat} (hk : k < ps.length) (h : wrongP (ps.getD k zPa) ≠ 0) : badGo k (ps.drop k) = (wrongP (ps.getD k zPa), (k : Int)) := by
  rw [drop_pa hk, badGo, if_pos h]
theorem bad_miss {ps : List Pa} {k : Nat} (hk : k < ps.length) (h : wrongP (ps.getD k zPa) = 0) : badGo k (ps.drop k) = badGo (k + 1) (ps.drop (k + 1)) := by
  rw [drop_pa hk, badGo, if_neg (by simpa using h)]
theorem bad_ok {i : Nat} {ps : List Pa} (h : (badGo i ps).1 = 0) : ∀ p ∈ ps, wrongP p = 0 := by
  induction ps generalizing i with
  | nil => intro p hp; cases hp
  | cons q r ih =>
    rw [badGo] at h
    by_cases e : wrongP q = 0
    · rw [if_neg (by simpa using e)] at h
      intro p hp
      rcases List.mem_cons.1 hp with rfl | hp
      · exact e
      · exact ih h p hp
    · rw [if_pos e] at h
      exact absurd h e
theorem set_ok {ps : List Pa} {shops cap : Int} (h : (setErr ps shops cap).1 = 0) : ps.length ≤ 8 ∧ 0 ≤ shops ∧ shops ≤ 8 ∧ 0 ≤ cap ∧ cap ≤ 1000000 ∧ ∀ p ∈ ps, wrongP p = 0 := by
  unfold setErr at h
  by_cases q1 : 8 < ps.length ∨ shops < 0 ∨ 8 < shops
  · rw [if_pos q1] at h; cases h
  rw [if_neg q1] at h
  by_cases q2 : cap < 0 ∨ 1000000 < cap
  · rw [if_pos q2] at h; cases h
  rw [if_neg q2] at h
  exact ⟨by omega, by omega, by omega, by omega, by omega, bad_ok h⟩
theorem sul_cells {w : World} {z : Nat} {vp : Value} {shops cap : Int} (h : w.heap[z]? = some (suo vp shops cap)) : w.cell? ⟨z, 0, none⟩ = some vp ∧ w.cell? ⟨z, 1, none⟩ = some (.int .i64 shops) ∧ w.cell? ⟨z, 2, none⟩ = some (.int .i64 cap) := by
  unfold suo at h
  refine ⟨?_, ?_, ?_⟩ <;> simp [World.cell?, h]
def fo (f : Int × Int) : Obj := .cells #[.int .i64 f.1, .int .i64 f.2] 47
theorem underF : ∃ d, Tryz.prog.underlying 47 = some d ∧ d.isRow = true := ⟨_, Tryz.underlying47, rfl⟩
theorem infoF : (Tryz.prog.info? 47).map (·.size) = some 2 := by kernel_rfl
theorem loadVar_f {w : World} {g : Nat} {a : Int × Int} (h : w.heap[g]? = some (fo a)) : (loadVar 47 ⟨g, 0, none⟩).run Tryz.prog w = .ok (Dy.fv a) w := by
  obtain ⟨d, h1, h2⟩ := underF
  exact run_loadVar_mid w g 0 47 [.int .i64 a.1, .int .i64 a.2] d (range_blk (cs := #[.int .i64 a.1, .int .i64 a.2]) h (fun j v hj => by simpa using hj)) h1 h2 infoF
theorem fo_put {w : World} {z : Nat} {x a : Int × Int} (h : w.heap[z]? = some (fo x)) : ((w.setCell ⟨z, 0, none⟩ (.int .i64 a.1)).setCell ⟨z, 1, none⟩ (.int .i64 a.2)).heap[z]? = some (fo a) := by
  unfold fo at h ⊢
  have h0 := heap_setCell_same w z 0 _ _ (.int .i64 a.1) h
  have h1 := heap_setCell_same _ z 1 _ _ (.int .i64 a.2) h0
  rw [h1]; simp
theorem fo_cells {w : World} {z : Nat} {a : Int × Int} (h : w.heap[z]? = some (fo a)) : w.cell? ⟨z, 0, none⟩ = some (.int .i64 a.1) ∧ w.cell? ⟨z, 1, none⟩ = some (.int .i64 a.2) ∧ w.frozen? ⟨z, 0, none⟩ = false ∧ w.frozen? ⟨z, 1, none⟩ = false := by
  unfold fo at h
  refine ⟨?_, ?_, ?_, ?_⟩
  · simp [World.cell?, h]
  · simp [World.cell?, h]
  · simp [World.frozen?, h]
  · simp [World.frozen?, h]
set_option maxRecDepth 10000 in
set_option maxHeartbeats 400000 in
theorem swrong_any (ps : List Pa) (a : Option Addr) (c : Nat) (shops cap : Int) (w : World) (hl : Gn.Lies kPa w a c ps) :
    Calls Tryz.prog 16 #[suv (.slice a ps.length c) shops cap] w fun e w' => e = .returned (Dy.fv (setErr ps shops cap)) ∧ Below w.heap.size w w' := by
  have e1 := below_alloc w (suo (.slice a ps.length c) shops cap)
  have e2 := below_alloc (w.alloc (suo (.slice a ps.length c) shops cap)) (fo (0, 0))
  have hb := e1.trans (e2.mono (by simp))
  have hs0 : ((w.alloc (suo (.slice a ps.length c) shops cap)).alloc (fo (0, 0))).heap[w.heap.size]? = some (suo (.slice a ps.length c) shops cap) := (e2.block _ (by simp)).trans (heap_alloc_at _ _ _ rfl)
  have hf0 : ((w.alloc (suo (.slice a ps.length c) shops cap)).alloc (fo (0, 0))).heap[w.heap.size + 1]? = some (fo (0, 0)) := heap_alloc_at _ _ _ (by simp)
  have hl1 := hl.below (hb.mono (Nat.le_refl _))
  have hmx := hl.len
  unfold maxLen at hmx
  obtain ⟨W, hW⟩ : ∃ W, (w.alloc (suo (.slice a ps.length c) shops cap)).alloc (fo (0, 0)) = W := ⟨_, rfl⟩
  rw [hW] at hb hs0 hf0 hl1
  unfold suo fo at hW
  dsimp only at hW
  obtain ⟨s0, s1, s2⟩ := sul_cells hs0
  obtain ⟨f0, f1, f2, f3⟩ := fo_cells hf0
  dsimp only at f0 f1
  have zl := lt_of_block hf0
  clear e1 e2 hl
  have ret : ∀ (X : World) (f : Int × Int), X.heap[w.heap.size + 1]? = some (fo (0, 0)) → Below w.heap.size w X → ∃ Y, (X.setCell ⟨w.heap.size + 1, 0, none⟩ (.int .i64 f.1)).setCell ⟨w.heap.size + 1, 1, none⟩ (.int .i64 f.2) = Y ∧ (loadVar 47 ⟨w.heap.size + 1, 0, none⟩).run Tryz.prog Y = .ok (Dy.fv f) Y ∧ Below w.heap.size w Y := fun X f hX hbX =>
    ⟨_, rfl, loadVar_f (fo_put hX), (hbX.setCell (p := ⟨w.heap.size + 1, 0, none⟩) (by simp) _).setCell (p := ⟨w.heap.size + 1, 1, none⟩) (by simp) _⟩
  unfold suv
  by_cases q1 : 8 < ps.length ∨ shops < 0 ∨ 8 < shops
  · have hE : setErr ps shops cap = (5, 0) := by unfold setErr; rw [if_pos q1]
    rw [hE]
    obtain ⟨Y, hY, hres, hbY⟩ := ret W (5, 0) hf0 hb
    dsimp only at hY
    clear ret hE
    have q3 : (8 : Int) < ps.length ∨ (¬ (8 : Int) < ps.length ∧ shops < 0) ∨ (¬ (8 : Int) < ps.length ∧ ¬ shops < 0 ∧ 8 < shops) := by omega
    clear q1
    rcases q3 with q | ⟨q, q2⟩ | ⟨q, q2, q4⟩
    all_goals
      go_enter Tryz.func16, Tryz.ntmps16
      go_upto_region 1 with fail
      try rw [hW]
      clear hW
      go_wp2_with fail
      try rw [hY]
      exact bodyPost_ret (v := Dy.fv (5, 0)) (results_cell Tryz.results16 rfl hres) rfl ⟨rfl, hbY⟩
  by_cases q2 : cap < 0 ∨ 1000000 < cap
  · have hE : setErr ps shops cap = (3, 0) := by unfold setErr; rw [if_neg q1, if_pos q2]
    rw [hE]
    obtain ⟨Y, hY, hres, hbY⟩ := ret W (3, 0) hf0 hb
    dsimp only at hY
    clear ret hE
    have p1 : ¬ (8 : Int) < ps.length := by omega
    have p2 : ¬ shops < 0 := by omega
    have p3 : ¬ 8 < shops := by omega
    clear q1
    have q3 : cap < 0 ∨ (¬ cap < 0 ∧ 1000000 < cap) := by omega
    clear q2
    rcases q3 with q | ⟨q, q2⟩
    all_goals
      go_enter Tryz.func16, Tryz.ntmps16
      go_upto_region 1 with fail
      try rw [hW]
      clear hW
      go_wp2_with fail
      try rw [hY]
      exact bodyPost_ret (v := Dy.fv (3, 0)) (results_cell Tryz.results16 rfl hres) rfl ⟨rfl, hbY⟩
  have p1 : ¬ (8 : Int) < ps.length := by omega
  have p2 : ¬ shops < 0 := by omega
  have p3 : ¬ 8 < shops := by omega
  have p4 : ¬ cap < 0 := by omega
  have p5 : ¬ 1000000 < cap := by omega
  have hE : Hid (setErr ps shops cap = badGo 0 (ps.drop 0)) := hid (by unfold setErr; rw [if_neg q1, if_neg q2]; rfl)
  clear q1 q2
  go_enter Tryz.func16, Tryz.ntmps16
  go_upto_region 1 with fail
  try rw [hW]
  clear hW
  go_upto_region 6 with fail
  clear s0 s1 s2 f0 f1 f2 f3
  go_loopw [33] (fun i wr => ∃ k : Nat, k ≤ ps.length ∧ i = .int .i64 k ∧ Hid (setErr ps shops cap = badGo k (ps.drop k)) ∧ Below W.heap.size W wr) (fun i _ => ps.length - (intOf i).toNat)
  case atStart => exact ⟨0, Nat.zero_le _, rfl, hE, Below.refl _ _⟩
  case round =>
    clear hE
    obtain ⟨k, hk, rfl, hE, hbr⟩ := hrel
    have hfr : wr.heap[w.heap.size + 1]? = some (fo (0, 0)) := (hbr.block _ zl).trans hf0
    have hbw : Below w.heap.size w wr := hb.trans (hbr.mono hb.size)
    by_cases hlt : k < ps.length
    · have hlt' : (k : Int) < ps.length := by omega
      have hlr := hl1.below hbr
      obtain ⟨z, off, rfl, zlt, hcell⟩ := hlr.elem (i := k) (x := ps.getD k zPa) (by simp [List.getD, hlt])
      have e0 := hcell 0 _ rfl
      have e1 := hcell 1 _ rfl
      have e2 := hcell 2 _ rfl
      simp only [Nat.add_zero] at e0
      dsimp only [kPa] at e0 e1 e2
      have hPW := fun X : World => wrong_any (ps.getD k zPa) X
      have hhit := hid (bad_hit (ps := ps) hlt)
      have hmiss := hid (bad_miss (ps := ps) hlt)
      have hb1 := below_alloc wr (.cells #[.int .i64 (ps.getD k zPa).t, .int .i64 (ps.getD k zPa).c, .int .i64 (ps.getD k zPa).s] 58)
      unfold pv at hPW
      clear hcell hlr
      generalize ps.getD k zPa = p at *
      by_cases hw : wrongP p = 0
      · have hm := hid ((hE.out).trans (hmiss.out hw))
        clear hhit hmiss hE
        rw [hw] at hPW
        go_wp2_with (go_at_call 42; refine (hPW _).mono ?_; rintro e w1 ⟨rfl, hbP⟩)
        go_roundw
        case rel => exact ⟨k + 1, by omega, by go_num, hm, (hbr.trans (hb1.mono hbr.size)).trans (hbP.mono (by simp; have := hbr.size; omega))⟩
        case measure => simp [intOf]; omega
      · have hh := hid ((hE.out).trans (hhit.out hw))
        have hw' : (wrongP p != 0) = true := by simpa using hw
        clear hhit hmiss hE hw
        generalize wrongP p = er at *
        go_upto_region 10 with (go_at_call 42; refine (hPW _).mono ?_; rintro e w1 ⟨rfl, hbP⟩)
        have hb3 : Below wr.heap.size wr w1 := hb1.trans (hbP.mono (by simp))
        obtain ⟨Y, hY, hres, hbY⟩ := ret w1 (er, (k : Int)) ((hb3.block _ (lt_of_block hfr)).trans hfr) (hbw.trans (hb3.mono hbw.size))
        obtain ⟨f0, f1, f2, f3⟩ := fo_cells ((hb3.block _ (lt_of_block hfr)).trans hfr)
        dsimp only at hY f0 f1
        clear ret hb3 hbP hb1
        go_wp2_with fail
        try rw [hY]
        exact bodyPost_ret (v := Dy.fv (er, (k : Int))) (results_cell Tryz.results16 rfl hres) rfl ⟨by rw [hh.out], hbY⟩
    · obtain rfl : k = ps.length := by omega
      have hz : Hid (setErr ps shops cap = (0, 0)) := hid (by rw [hE.out]; simp [badGo])
      obtain ⟨Y, hY, hres, hbY⟩ := ret wr (0, 0) hfr hbw
      obtain ⟨f0, f1, f2, f3⟩ := fo_cells hfr
      dsimp only at hY f0 f1
      clear ret hE
      go_wp2_with fail
      try rw [hY]
      exact bodyPost_ret (v := Dy.fv (0, 0)) (results_cell Tryz.results16 rfl hres) rfl ⟨by rw [hz.out], hbY⟩
end Go.Proofs.YtodkcagingnelacGreatDoor.Bn
