/- pickOf: the pick of a word. -/
import Derived.Test.YtkmadabpfialbaaGreatDoorScMaps
import Derived.Test.YtkmadabpfialbaaGreatDoorScTie
import Derived.Test.YtkmadabpfialbaaGreatDoorScPrint
import Derived.Shelf.Strings.SlTrimAscii
import Derived.Laws.ResultCell
import Derived.Laws.Rows
namespace Go.Proofs.YtkmadabpfialbaaGreatDoor
open Go.ChangeShapes Go.WideShapes Go.ChangeAt Go.RowKit Go.Maps
set_option linter.unusedVariables false
set_option maxRecDepth 100000
set_option linter.unusedSimpArgs false
def digs : List UInt8 := [48, 49, 50, 51, 52, 53, 54, 55, 56, 57]
theorem digs_dig (b : UInt8) : digs.contains b = isDig b := by
  have h : ∀ n : Fin 256, digs.contains (UInt8.ofNat n.val) = isDig (UInt8.ofNat n.val) := by decide +kernel
  have := h ⟨b.toNat, b.toNat_lt⟩
  simpa using this
theorem trimL_eq (l : List UInt8) : Lib.trimLeftS l digs = l.dropWhile isDig := by
  unfold Lib.trimLeftS
  congr 1
  funext b
  exact digs_dig b
theorem trimLeft_any (s : ByteArray) (w : World) : Calls Tryz.prog 42 #[.string s, .string ⟨#[48, 49, 50, 51, 52, 53, 54, 55, 56, 57]⟩] w fun e w' => e = .returned (.string ⟨(s.data.toList.dropWhile isDig).toArray⟩) ∧ Below w.heap.size w w' := by
  have h := Any.strings_TrimLeft_laid Tryz.lays161 (by kernel_rfl) s ⟨#[48, 49, 50, 51, 52, 53, 54, 55, 56, 57]⟩ w (by decide) (Go.Proofs.ascii_of_all (by decide))
  rw [← trimL_eq]
  exact h
theorem trimS_eq (l : List UInt8) : Lib.trimSuffix l (l.dropWhile isDig) = l.takeWhile isDig := by
  have e : l.takeWhile isDig ++ l.dropWhile isDig = l := List.takeWhile_append_dropWhile
  have hs : Lib.hasSuffix l (l.dropWhile isDig) = true := by
    unfold Lib.hasSuffix
    rw [List.isSuffixOf_iff_suffix]
    exact ⟨_, e⟩
  unfold Lib.trimSuffix
  rw [if_pos hs]
  have hl : l.length - (l.dropWhile isDig).length = (l.takeWhile isDig).length := by
    have := congrArg List.length e
    rw [List.length_append] at this
    omega
  rw [hl]
  exact (congrArg (List.take (l.takeWhile isDig).length) e.symm).trans (List.take_left' rfl)
theorem kindD2_yes (l : List UInt8) (k : Int) (h : kindB l = some k) : Maps.has kindD2 (.string l) = true ∧ kindD2.atKey (.string l) (.lit (.int .i64 0)) = .lit (.int .i64 k) := by
  obtain ⟨rfl, k0, k2⟩ := kindB_some h
  obtain rfl | rfl | rfl : k = 0 ∨ k = 1 ∨ k = 2 := by omega
  · exact ⟨rfl, rfl⟩
  · exact ⟨rfl, rfl⟩
  · exact ⟨rfl, rfl⟩
theorem kindD2_no (l : List UInt8) (h : kindB l = none) : Maps.has kindD2 (.string l) = false ∧ kindD2.atKey (.string l) (.lit (.int .i64 0)) = .lit (.int .i64 0) := by
  unfold kindB at h
  have e0 : l ≠ [] := fun e => by rw [if_pos e] at h; cases h
  rw [if_neg e0] at h
  have e1 : l ≠ [116] := fun e => by rw [if_pos e] at h; cases h
  rw [if_neg e1] at h
  have e2 : l ≠ [115] := fun e => by rw [if_pos e] at h; cases h
  have f0 : [] ≠ l := fun e => e0 e.symm
  have f1 : [116] ≠ l := fun e => e1 e.symm
  have f2 : [115] ≠ l := fun e => e2 e.symm
  have g0 : (([] : List UInt8) == l) = false := beq_eq_false_iff_ne.2 f0
  have g1 : (([116] : List UInt8) == l) = false := beq_eq_false_iff_ne.2 f1
  have g2 : (([115] : List UInt8) == l) = false := beq_eq_false_iff_ne.2 f2
  exact ⟨by simp [kindD2, kdat, Maps.has, Lit.sameKey, e0, f1, f2], by simp only [kindD2, kdat, DataW.atKey, Lit.sameKey]; simp [List.find?, g0, g1, g2]⟩
theorem KindMap.below {w w' : World} {b n : Nat} (h : KindMap w b) (hb : Below n w w') (hn : b < n) : KindMap w' b := by
  obtain ⟨es, clock, hb1, F, hs, hD⟩ := h
  exact ⟨es, clock, (hb.block b hn).trans hb1, F, hs, hD⟩
theorem KindMap.lt {w : World} {b : Nat} (h : KindMap w b) : b < w.heap.size := by
  obtain ⟨es, clock, hb1, F, hs, hD⟩ := h
  exact (Array.getElem?_eq_some_iff.1 hb1).1
def PickPost (r : Option Pk) (w : World) (e : Ending) (w' : World) : Prop :=
  Below w.heap.size w w' ∧ e = .returned (.tuple #[pkV (r.getD (0, 0)), .bool r.isSome])
/-- the world's facts, behind blocks that are new -/
structure Env7 (w : World) (b n : Nat) : Prop where
  tie : TieW w
  map : KindMap w b
  lt : b < n
  big : 4 < n
theorem Env7.below {w w' : World} {b n : Nat} (h : Env7 w b n) (hb : Below n w w') : Env7 w' b n :=
  ⟨h.tie.below hb (by have := h.big; omega), h.map.below hb h.lt, h.lt, h.big⟩
theorem Env7.at {w : World} {b : Nat} (ht : TieW w) (h : KindMap w b) : Env7 w b w.heap.size := ⟨ht, h, h.lt, ht.big⟩
theorem bytes_eq {a : ByteArray} {l : List UInt8} (h : a.data.toList = l) : a = ⟨l.toArray⟩ := by
  cases a
  simp at h
  simp [← h]
theorem results_pick (tmps : Array Value) (n : Nat) (r0 r1 r : Value) (W : World) (h : Blk W n 46 #[r0, r1]) (h4 : tmps.getD 4 undef = .pointer (some ⟨n, 0, none⟩)) (h5 : tmps.getD 5 undef = r) :
    (results Tryz.f31 tmps).run Tryz.prog W = .ok (.tuple #[.agg #[r0, r1], r]) W := by
  rw [results_cell_tmp (u := 5) rfl tmps Tryz.prog W, h4, h5]
  simp [asAddr, run_loadVar_row W n 46 46 #[r0, r1] (0, 0) _ h Tryz.underlying46 rfl (by kernel_rfl), Result.andThen]
theorem pick_ret (w W : World) (a : Act) (r0 r1 : Int) (r : Option Pk) (h : Blk W w.heap.size 46 #[.int .i64 r0, .int .i64 r1]) (hb : Below w.heap.size w W)
    (h4 : a.tmps.getD 4 undef = .pointer (some ⟨w.heap.size, 0, none⟩)) (h5 : a.tmps.getD 5 undef = .bool r.isSome) (hd : a.defers = []) (hr : r.getD (0, 0) = (r0, r1)) : bodyPost Tryz.prog Tryz.f31 (PickPost r w) .ret a W :=
  bodyPost_ret (results_pick a.tmps _ _ _ _ W h h4 h5) hd ⟨hb, by rw [hr]⟩
set_option maxHeartbeats 4000000 in
theorem pickOf_any (s : ByteArray) (b : Nat) (w : World) (hs : s.size ≤ 1000000) (ht : TieW w) (hK : KindMap w b) :
    Calls Tryz.prog 31 #[.string s, .map (some b)] w (PickPost (pickB s.data.toList) w) := by
  have hE : Env7 w b w.heap.size := Env7.at ht hK
  have hTL := Lib.hid (fun W => trimLeft_any s W)
  have hTS := Lib.hid (fun W => (Tryz.strings_TrimSuffix s ⟨(s.data.toList.dropWhile isDig).toArray⟩ W (by omega)).mono (R' := fun e w' => e = .returned (.string ⟨(Lib.trimSuffix s.data.toList (⟨(s.data.toList.dropWhile isDig).toArray⟩ : ByteArray).data.toList).toArray⟩) ∧ W = w') (fun e w' h => ⟨h.1, h.2.symm⟩))
  rw [show ((⟨(s.data.toList.dropWhile isDig).toArray⟩ : ByteArray).data.toList) = s.data.toList.dropWhile isDig by simp, trimS_eq] at hTS
  have hd1 : (s.data.toList.takeWhile isDig).length ≤ s.size := by
    have e : s.data.toList.takeWhile isDig ++ s.data.toList.dropWhile isDig = s.data.toList := List.takeWhile_append_dropWhile
    have := congrArg List.length e
    rw [List.length_append] at this
    have h2 : s.data.toList.length = s.size := by simp
    omega
  have hl1 : (s.data.toList.dropWhile isDig).length ≤ s.size := by
    have e : s.data.toList.takeWhile isDig ++ s.data.toList.dropWhile isDig = s.data.toList := List.takeWhile_append_dropWhile
    have := congrArg List.length e
    rw [List.length_append] at this
    have h2 : s.data.toList.length = s.size := by simp
    omega
  obtain ⟨r, hr⟩ : ∃ r, pickB s.data.toList = r := ⟨_, rfl⟩
  rw [hr]
  unfold pickB at hr
  generalize s.data.toList.takeWhile isDig = d at *
  generalize s.data.toList.dropWhile isDig = l at *
  obtain ⟨sl, hsl⟩ : ∃ sl : ByteArray, sl = ⟨l.toArray⟩ := ⟨_, rfl⟩
  obtain ⟨sd, hsd⟩ : ∃ sd : ByteArray, sd = ⟨d.toArray⟩ := ⟨_, rfl⟩
  have hsl2 : sl.data.toList = l := by rw [hsl]
  have hsd2 : sd.data.toList = d := by rw [hsd]
  have hsl3 : sl.size ≤ 1000000 := by have : sl.size = l.length := by rw [← hsl2]; simp
                                      omega
  have hsd3 : sd.size ≤ 1000000 := by have : sd.size = d.length := by rw [← hsd2]; simp
                                      omega
  rw [← hsl] at hTL hTS
  rw [← hsd] at hTS
  have hkey := WideMaps.keyOf_string_mk Tryz.underlying9 (s := sl) (show sl.size ≤ maxLen by unfold maxLen; omega)
  rw [hsl2] at hkey
  have hAt := Lib.hid (fun W (hE : Env7 W b w.heap.size) => atoi_any sd hsd3 W hE.tie)
  rw [hsd2] at hAt
  obtain ⟨kn, kv, hk1, hk2, hk3⟩ : ∃ (kn : Bool) (kv : Int), Maps.has kindD2 (.string l) = kn ∧ kindD2.atKey (.string l) (.lit (.int .i64 0)) = .lit (.int .i64 kv) ∧ (kindB l = if kn then some kv else none) := by
    cases h : kindB l with
    | none => obtain ⟨h1, h2⟩ := kindD2_no l h; exact ⟨false, 0, h1, h2, by simp⟩
    | some k => obtain ⟨h1, h2⟩ := kindD2_yes l k h; exact ⟨true, k, h1, h2, by simp⟩
  rw [hk3] at hr
  have HR := Lib.hid hr
  clear hr
  obtain ⟨W, hW⟩ : ∃ W, w.alloc (.cells #[.int .i64 0, .int .i64 0] 46) = W := ⟨_, rfl⟩
  have hBW : Below w.heap.size w W := by rw [← hW]; exact (Below.refl _ w).alloc (Nat.le_refl _) _
  have hCW : Blk W w.heap.size 46 #[.int .i64 0, .int .i64 0] := by rw [← hW]; exact Blk.new w _ _
  have HK1 := Lib.hid hk1
  have HD := Lib.hid hsd2
  have HK2 := Lib.hid hk2
  clear hsl hsd hsl2 hsd2 hk1 hk2 hk3 hsl3 hsd3 hl1 hd1 hs
  go_enter Tryz.func31, Tryz.ntmps31
  go_upto_region 1 with fail
  go_upto_region 4 with (first
    | (go_at_call 42; refine (hTL.out _).mono ?_; rintro e w2 ⟨rfl, b2⟩)
    | (go_at_call 43; refine (hTS.out _).mono ?_; rintro e w3 ⟨rfl, rfl⟩)
    | (at_lookup; refine wpList_lookup_own_ok_int _ rfl _ _ 60 rfl 9 3 .i64 lawStr Tryz.underlying60 Tryz.underlying3 (zeroI _) b 3 kindD2 rfl ((hE.below (hBW.trans (b2.mono hBW.size))).map) _ (.string l) rfl hkey ?_; intro c hat hwc; rw [HK1.out]))
  have hbw2 : Below w.heap.size w w2 := hBW.trans (b2.mono hBW.size)
  have C2 : Blk w2 w.heap.size 46 #[.int .i64 0, .int .i64 0] := hCW.below b2 hCW.lt
  have hE2 := hE.below hbw2
  have hA2 := hAt.out w2 hE2
  have hIt := Lib.hid (fun (v : Int) (W : World) (hE : Env7 W b w.heap.size) (h : -9223372036854775808 ≤ v ∧ v ≤ 9223372036854775807) => itoa_any v h.1 h.2 W hE.tie)
  have hE3 := Lib.hid (fun w3 (h : Below w2.heap.size w2 w3) => hE2.below (h.mono hbw2.size))
  have hlt2 := C2.lt
  obtain rfl : c = kv := by rw [HK2.out] at hat; simpa using hat.symm
  clear hAt hat hwc hkey hE hE2 hTL hTS hCW hBW hW ht hK HK1 HK2
  rcases hA : Lib.atoiAll d with v | _ | _
  · skip
    have hA3 : Calls Tryz.prog 44 #[.string sd] w2 fun e w' => e = .returned (.tuple #[.int .i64 v, .nilIface]) ∧ Below w2.heap.size w2 w' := hA2.mono fun e w' ⟨hb, h⟩ => by
      rcases h with ⟨v', h1, h2⟩ | ⟨h1, _⟩
      · rw [hA] at h1; cases h1; exact ⟨h2, hb⟩
      · exact absurd hA (h1 v)
    have hvb := Lib.atoiAll_bounds hA
    have HI := Lib.hid (fun W h => hIt.out v W h hvb)
    clear hA2 hIt
    cases kn with
    | false =>
      clear HI hvb
      obtain rfl : r = none := by rw [← HR.out]; simp
      go_upto_region 5 with (go_at_call 44; refine hA3.mono ?_; rintro e w4 ⟨rfl, b4⟩)
      have C4 := C2.below b4 hlt2
      have hb4 := hbw2.trans (b4.mono hbw2.size)
      have c0 := C4.cell 0 _ rfl
      have c1 := C4.cell 1 _ rfl
      have f0 := C4.free 0
      have f1 := C4.free 1
      go_wp2
      exact pick_ret w _ _ 0 0 none ((C4.set 0 _).set 1 _) ((hb4.setCell (p := ⟨w.heap.size, 0, none⟩) (Nat.le_refl _) _).setCell (p := ⟨w.heap.size, 1, none⟩) (Nat.le_refl _) _) rfl rfl rfl rfl
    | true =>
      by_cases hv9 : v ≤ 99999
      · obtain ⟨si, hsi⟩ : ∃ si : ByteArray, si = ⟨(Lib.itoa v).toArray⟩ := ⟨_, rfl⟩
        rw [← hsi] at HI
        by_cases hde : Lib.itoa v = d
        · have hss : sd = si := by rw [hsi, hde]; exact bytes_eq HD.out
          subst hss
          obtain rfl : r = some (v, c) := by rw [← HR.out, hA]; simp [hv9, hde]
          clear hsi hde
          go_upto_region 5 with (go_at_call 44; refine hA3.mono ?_; rintro e w4 ⟨rfl, b4⟩)
          have C4 := C2.below b4 hlt2
          have hb4 := hbw2.trans (b4.mono hbw2.size)
          have H4 := HI.out w4 (hE3.out w4 b4)
          have hlt4 := C4.lt
          go_wp2_with (go_at_call 38; refine H4.mono ?_; rintro e w5 ⟨rfl, b5⟩; have C5 := C4.below b5 hlt4; have hb5 := hb4.trans (b5.mono hb4.size); have c0 := C5.cell 0 _ rfl; have c1 := C5.cell 1 _ rfl; have f0 := C5.free 0; have f1 := C5.free 1)
          exact pick_ret w _ _ v c (some (v, c)) ((C5.set 0 _).set 1 _) ((hb5.setCell (p := ⟨w.heap.size, 0, none⟩) (Nat.le_refl _) _).setCell (p := ⟨w.heap.size, 1, none⟩) (Nat.le_refl _) _) rfl rfl rfl rfl
        · have hss : (si.toList == sd.toList) = false := beq_eq_false_iff_ne.2 (fun e => by
            rw [Lib.toList_data, Lib.toList_data] at e
            exact hde (by rw [← HD.out, ← e, hsi]))
          obtain rfl : r = none := by rw [← HR.out, hA]; simp [hde]
          clear hsi hde
          go_upto_region 5 with (go_at_call 44; refine hA3.mono ?_; rintro e w4 ⟨rfl, b4⟩)
          have C4 := C2.below b4 hlt2
          have hb4 := hbw2.trans (b4.mono hbw2.size)
          have H4 := HI.out w4 (hE3.out w4 b4)
          have hlt4 := C4.lt
          go_wp2_with (go_at_call 38; refine H4.mono ?_; rintro e w5 ⟨rfl, b5⟩; have C5 := C4.below b5 hlt4; have hb5 := hb4.trans (b5.mono hb4.size); have c0 := C5.cell 0 _ rfl; have c1 := C5.cell 1 _ rfl; have f0 := C5.free 0; have f1 := C5.free 1)
          exact pick_ret w _ _ 0 0 none ((C5.set 0 _).set 1 _) ((hb5.setCell (p := ⟨w.heap.size, 0, none⟩) (Nat.le_refl _) _).setCell (p := ⟨w.heap.size, 1, none⟩) (Nat.le_refl _) _) rfl rfl rfl rfl
      · obtain rfl : r = none := by rw [← HR.out, hA]; simp [hv9]
        have hv9' : 99999 < v := by omega
        clear HI hvb hv9
        go_upto_region 5 with (go_at_call 44; refine hA3.mono ?_; rintro e w4 ⟨rfl, b4⟩)
        have C4 := C2.below b4 hlt2
        have hb4 := hbw2.trans (b4.mono hbw2.size)
        have c0 := C4.cell 0 _ rfl
        have c1 := C4.cell 1 _ rfl
        have f0 := C4.free 0
        have f1 := C4.free 1
        go_wp2
        exact pick_ret w _ _ 0 0 none ((C4.set 0 _).set 1 _) ((hb4.setCell (p := ⟨w.heap.size, 0, none⟩) (Nat.le_refl _) _).setCell (p := ⟨w.heap.size, 1, none⟩) (Nat.le_refl _) _) rfl rfl rfl rfl
  · obtain rfl : r = none := by rw [← HR.out, hA]; cases kn <;> rfl
    have hA3 : Calls Tryz.prog 44 #[.string sd] w2 fun e w' => Below w2.heap.size w2 w' ∧ ∃ v t a, e = .returned (.tuple #[.int .i64 v, .iface t (.pointer (some a))]) := hA2.mono fun e w' ⟨hb, h⟩ => by
      rcases h with ⟨v', h1, h2⟩ | ⟨_, h1⟩
      · rw [hA] at h1; cases h1
      · exact ⟨hb, h1⟩
    clear hA2 hIt
    cases kn
    all_goals
      go_upto_region 5 with (go_at_call 44; refine hA3.mono ?_; rintro e w4 ⟨b4, v, t, a, rfl⟩)
      have C4 := C2.below b4 hlt2
      have hb4 := hbw2.trans (b4.mono hbw2.size)
      have c0 := C4.cell 0 _ rfl
      have c1 := C4.cell 1 _ rfl
      have f0 := C4.free 0
      have f1 := C4.free 1
      go_wp2
      exact pick_ret w _ _ 0 0 none ((C4.set 0 _).set 1 _) ((hb4.setCell (p := ⟨w.heap.size, 0, none⟩) (Nat.le_refl _) _).setCell (p := ⟨w.heap.size, 1, none⟩) (Nat.le_refl _) _) rfl rfl rfl rfl
  · obtain rfl : r = none := by rw [← HR.out, hA]; cases kn <;> rfl
    have hA3 : Calls Tryz.prog 44 #[.string sd] w2 fun e w' => Below w2.heap.size w2 w' ∧ ∃ v t a, e = .returned (.tuple #[.int .i64 v, .iface t (.pointer (some a))]) := hA2.mono fun e w' ⟨hb, h⟩ => by
      rcases h with ⟨v', h1, h2⟩ | ⟨_, h1⟩
      · rw [hA] at h1; cases h1
      · exact ⟨hb, h1⟩
    clear hA2 hIt
    cases kn
    all_goals
      go_upto_region 5 with (go_at_call 44; refine hA3.mono ?_; rintro e w4 ⟨b4, v, t, a, rfl⟩)
      have C4 := C2.below b4 hlt2
      have hb4 := hbw2.trans (b4.mono hbw2.size)
      have c0 := C4.cell 0 _ rfl
      have c1 := C4.cell 1 _ rfl
      have f0 := C4.free 0
      have f1 := C4.free 1
      go_wp2
      exact pick_ret w _ _ 0 0 none ((C4.set 0 _).set 1 _) ((hb4.setCell (p := ⟨w.heap.size, 0, none⟩) (Nat.le_refl _) _).setCell (p := ⟨w.heap.size, 1, none⟩) (Nat.le_refl _) _) rfl rfl rfl rfl
end Go.Proofs.YtkmadabpfialbaaGreatDoor
