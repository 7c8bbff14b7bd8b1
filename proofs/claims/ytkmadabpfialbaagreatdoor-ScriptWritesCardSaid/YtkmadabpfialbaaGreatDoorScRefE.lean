/- The document's own answers of layer 7 (doorkeeperref07): Print. -/
import Derived.Test.YtkmadabpfialbaaGreatDoorScRefD
namespace Go.Proofs.YtkmadabpfialbaaGreatDoor
open Go.ChangeShapes Go.WideShapes Go.ChangeAt Go.RowKit Go.Maps
set_option linter.unusedVariables false
set_option maxRecDepth 100000
set_option linter.unusedSimpArgs false
theorem join_snoc : ∀ (ws : List (List UInt8)) (u : List UInt8), Lib.join (ws ++ [u]) [32] = if ws = [] then u else Lib.join ws [32] ++ (32 :: u)
  | [], u => by simp [Lib.join]
  | [a], u => by simp [Lib.join]
  | a :: b :: r, u => by
    have ih := join_snoc (b :: r) u
    rw [if_neg (by simp)] at ih
    have e1 : Lib.join (a :: b :: r) [32] = a ++ (32 :: Lib.join (b :: r) [32]) := by simp [Lib.join]
    have e2 : Lib.join (a :: b :: r ++ [u]) [32] = a ++ (32 :: Lib.join (b :: r ++ [u]) [32]) := by simp [Lib.join]
    rw [e2, ih, if_neg (by simp), e1]
    simp
theorem print_next {l : List Pk} {k : Nat} {p : Pk} {T : List UInt8} (h : l[k]? = some p) (hT : T = Lib.join ((l.take k).map wordB) [32]) : (if 0 < k then T ++ [32] else T) ++ wordB p = Lib.join ((l.take (k + 1)).map wordB) [32] := by
  rw [take_snocP l k p h, List.map_append, List.map_singleton, join_snoc, hT]
  have hk : k < l.length := (List.getElem?_eq_some_iff.1 h).1
  by_cases h0 : 0 < k
  · rw [if_pos h0, if_neg (by intro e; have := congrArg List.length e; rw [List.length_map, List.length_take, List.length_nil] at this; omega)]
    simp
  · obtain rfl : k = 0 := by omega
    simp [Lib.join]
/-- a region may be walked on under a condition that says more -/
theorem wpAnyH_more7 {P : Program} {md : Region.Mode} {ops : Array Oper} {Q : Exit → Act → World → Prop} {S S' : World → Prop} (h : ∀ w, S' w → S w) :
    ∀ (fuel : Nat) (listed : Array Bool) (a : Act) (w : World), wpAnyH P md ops Q S' fuel listed a w → wpAnyH P md ops Q S fuel listed a w
  | 0, _, _, _, hh => hh
  | fuel + 1, _, _, _, hh => ⟨hh.1, fun i hi => wpOp_mono (fun a' w' h' => ⟨h _ h'.1, wpAnyH_more7 h fuel _ a' w' h'.2⟩) (hh.2 i hi)⟩
set_option maxHeartbeats 8000000 in
theorem rprint_any (v : Value) (l : List Pk) (w : World) (hv : PicksAt w w.heap.size v l) (hl : l.length ≤ 1000) :
    Calls Tryz.prog 14 #[v] w fun e w' => e = .returned (strV (printL l)) ∧ Below w.heap.size w w' := by
  obtain ⟨a, c, rfl, hc, hp⟩ := id hv
  have HP := Lib.hid hp
  have HD := Lib.hid (fun n (hn : n ≤ 99999) W => rdigits_any n n W (Nat.le_refl _) hn)
  clear hv hp
  go_enter Tryz.func14, Tryz.ntmps14
  go_wp2
  go_loopw [3, 4] (fun v3 v4 wr => ∃ (k : Nat) (T : List UInt8), v3 = strV T ∧ v4 = .int .i64 (k : Int) ∧ k ≤ l.length ∧ T.length ≤ 8 * k ∧ Hid (T = Lib.join ((l.take k).map wordB) [32]) ∧ Below w.heap.size w wr)
    (fun _ v4 _ => l.length - (intOf v4).toNat)
  case atStart => exact ⟨0, [], rfl, rfl, by omega, by simp, Lib.hid rfl, Below.refl _ _⟩
  case round =>
    obtain ⟨k, T, rfl, rfl, hk, hTl, hT, hb⟩ := hrel
    have hh := hb.size
    by_cases hlt : k < l.length
    · obtain ⟨p, hpi⟩ : ∃ p, l[k]? = some p := ⟨_, List.getElem?_eq_getElem hlt⟩
      obtain ⟨B, o, rfl, hB1, hB2, c0, c1⟩ := HP.out k p hpi
      replace c0 := (hb.cell (p := ⟨B, o + k * 2, none⟩) hB1).trans c0
      replace c1 := (hb.cell (p := ⟨B, o + (k * 2 + 1), none⟩) hB1).trans c1
      rw [← Nat.add_assoc] at c1
      have hix := idx_nat l.length c B o k hlt
      have hN := Lib.hid (print_next hpi hT.out)
      obtain ⟨pu, pq⟩ := p
      simp only at c0 c1
      have g1 : (k : Int) < (l.length : Int) := by omega
      have hql : ¬ 9223372036854775807 < T.length + 1 := by omega
      clear hpi
      obtain ⟨U, hU, hUl⟩ : ∃ U, Hid (U = if 0 < k then T ++ [32] else T) ∧ U.length ≤ 8 * k + 1 := ⟨_, Lib.hid rfl, by by_cases h : 0 < k <;> simp [h] <;> omega⟩
      rw [← hU.out] at hN
      have hk0 : k = 0 ∨ 0 < k := by omega
      rcases hk0 with h0 | h0
      · have g2 : ¬ (0 : Int) < (k : Int) := by omega
        obtain rfl : U = T := by rw [hU.out, if_neg (by omega)]
        clear hTl hql hT hU h0
        go_upto_region 7 with fail
        by_cases hok : okPk (pu, pq) = true
        · have hok2 := hok
          simp [okPk] at hok2
          obtain ⟨⟨q0, q1⟩, q2, q3⟩ := hok2
          obtain ⟨n, rfl⟩ := Int.eq_ofNat_of_zero_le q0
          have hw : Hid (wordB ((n : Int), pq) = Lib.decDigits n ++ letterB pq) := Lib.hid (by unfold wordB; rw [if_pos hok, Lib.itoa_nonneg])
          have hn9 : n ≤ 99999 := by omega
          have hdl := dec_len (u := n) (by omega)
          have g7 : ¬ (n : Int) < 0 := by omega
          have g8 : ¬ (99999 : Int) < (n : Int) := by omega
          clear hok
          have hq : pq = 0 ∨ pq = 1 ∨ pq = 2 := by omega
          rcases hq with rfl | rfl | rfl
          · go_upto_region 10 with fail
            have hX : Blk (wr.alloc (.cells #[.int .i64 (n : Int), .int .i64 0] 46)) wr.heap.size 46 #[.int .i64 (n : Int), .int .i64 0] := Blk.new _ _ _
            have hBX : Below w.heap.size w (wr.alloc (.cells #[.int .i64 (n : Int), .int .i64 0] 46)) := hb.alloc hh _
            generalize wr.alloc (.cells #[.int .i64 (n : Int), .int .i64 0] 46) = W0 at *
            generalize wr.heap.size = X at *
            have HX := Lib.hid hX
            have HBX := Lib.hid hBX
            clear hX hBX hb c0 c1
            have SK : Hid (∀ W, Below W0.heap.size W0 W → W.cell? ⟨X, 0, none⟩ = some (.int .i64 (n : Int)) ∧ W.cell? ⟨X, 1, none⟩ = some (.int .i64 0)) := Lib.hid fun W hB => ⟨(HX.out.below hB HX.out.lt).cell 0 _ rfl, (HX.out.below hB HX.out.lt).cell 1 _ rfl⟩
            have bd : Below W0.heap.size W0 W0.drew := (Below.refl _ W0).drew
            have hDl : ¬ 9223372036854775807 < U.length + (Lib.decDigits n).length := by omega
            have hDl2 : ¬ 9223372036854775807 < U.length + (Lib.decDigits n).length + 1 := by omega
            have hcc : ({ data := U.toArray } : ByteArray) ++ { data := (Lib.decDigits n).toArray } = { data := (U ++ Lib.decDigits n).toArray } := bytes_app _ _
            refine wp_region_held_drew (S := (fun W => W.cell? ⟨X, 0, none⟩ = some (.int .i64 (n : Int)) ∧ W.cell? ⟨X, 1, none⟩ = some (.int .i64 0))) (by kernel_rfl) (SK.out _ bd) (fun hHeld => ?_)
            refine wpAnyH_take (i := 0) (oi := _) (v := ?_) rfl (by kernel_rfl) (by kernel_rfl) (by kernel_rfl) (fun _ _ _ h => h) (Or.inl ⟨by rfl, ?_⟩) (by assumption) ?_
            rotate_left
            · intro w hSw; (try dsimp only at hSw); go_simp; try with_reducible rfl
            (try simp only [Act.put, List.setIfInBounds_toArray, List.set_cons_zero, List.set_cons_succ])
            refine wpAnyH_take (i := 1) (oi := _) (v := ?_) rfl (by kernel_rfl) (by kernel_rfl) (by kernel_rfl) (fun _ _ _ h => h) (Or.inl ⟨by rfl, ?_⟩) (by assumption) ?_
            rotate_left
            · intro w hSw; (try dsimp only at hSw); go_simp; try with_reducible rfl
            (try simp only [Act.put, List.setIfInBounds_toArray, List.set_cons_zero, List.set_cons_succ])
            refine wpAnyH_take (i := 2) (oi := _) (v := ?_) rfl (by kernel_rfl) (by kernel_rfl) (by kernel_rfl) (fun _ _ _ h => h) (Or.inl ⟨by rfl, ?_⟩) (by assumption) ?_
            rotate_left
            · intro w hSw; (try dsimp only at hSw); go_simp; try with_reducible rfl
            (try simp only [Act.put, List.setIfInBounds_toArray, List.set_cons_zero, List.set_cons_succ])
            refine wpAnyH_take (i := 6) (oi := _) (v := ?_) rfl (by kernel_rfl) (by kernel_rfl) (by kernel_rfl) (fun _ _ _ h => h) (Or.inl ⟨by rfl, ?_⟩) (by assumption) ?_
            rotate_left
            · intro w hSw; (try dsimp only at hSw); go_simp; try with_reducible rfl
            (try simp only [Act.put, List.setIfInBounds_toArray, List.set_cons_zero, List.set_cons_succ])
            refine wpAnyH_take (i := 7) (oi := _) (v := ?_) rfl (by kernel_rfl) (by kernel_rfl) (by kernel_rfl) (fun _ _ _ h => h) (Or.inl ⟨by rfl, ?_⟩) (by assumption) ?_
            rotate_left
            · intro w hSw; (try dsimp only at hSw); go_simp; try with_reducible rfl
            (try simp only [Act.put, List.setIfInBounds_toArray, List.set_cons_zero, List.set_cons_succ])
            refine wpAnyH_ready (rs := [3, 5]) (by kernel_rfl) (by simp) ?_
            refine AllReadyH.cons rfl (fun K hK => ?_) ?_
            · go_simp
              go_at_call 27
              refine (HD.out n hn9 _).mono ?_
              rintro e w2 ⟨rfl, hb2⟩
              have b2 : Below W0.heap.size W0 w2 := bd.trans hb2
              go_wp2_with fail
              refine hK.out _ _ (SK.out _ b2) (fun hHeld => ?_)
              clear hK K
              (try dsimp only [Act.put]); (try simp only [Act.put, List.setIfInBounds_toArray, List.set_cons_zero, List.set_cons_succ])
              refine wpAnyH_take (i := 4) (oi := { dst := some 44, op := Op.binOp BinOp.add 9 (Operand.tmp 40) (Operand.tmp 43) 9, type := 9, pos := "ref.go:86", after := #[{ on := 0, ground := Ground.data }, { on := 3, ground := Ground.data }], guard := none }) (v := ?_) rfl (by kernel_rfl) (by kernel_rfl) (by kernel_rfl) (fun _ _ _ h => h) (Or.inl ⟨by rfl, ?_⟩) (by assumption) ?_
              rotate_left
              · intro w hSw; (try dsimp only at hSw); go_simp; try with_reducible rfl
              (try simp only [Act.put, List.setIfInBounds_toArray, List.set_cons_zero, List.set_cons_succ])
              refine wpAnyH_ready (rs := [5]) (by kernel_rfl) (by simp) ?_
              refine AllReadyH.cons rfl (fun K hK => ?_) AllReadyH.nil
              go_simp
              have b3 : Below W0.heap.size W0 (w2.alloc (.cells #[.string ⟨#[]⟩, .string ⟨#[116]⟩, .string ⟨#[115]⟩] 9)) := b2.alloc b2.size _
              have hN3 : Blk (w2.alloc (.cells #[.string ⟨#[]⟩, .string ⟨#[116]⟩, .string ⟨#[115]⟩] 9)) w2.heap.size 9 #[.string ⟨#[]⟩, .string ⟨#[116]⟩, .string ⟨#[115]⟩] := Blk.new _ _ _
              have x3 : (w2.alloc (.cells #[.string ⟨#[]⟩, .string ⟨#[116]⟩, .string ⟨#[115]⟩] 9)).cell? ⟨w2.heap.size, 0, none⟩ = some (.string ⟨#[]⟩) := hN3.cell 0 _ rfl
              go_wp2_with fail
              refine hK.out _ _ (SK.out _ b3) (fun hHeld => ?_)
              clear hK K
              (try dsimp only [Act.put]); (try simp only [Act.put, List.setIfInBounds_toArray, List.set_cons_zero, List.set_cons_succ])
              refine wpAnyH_more7 (S' := (fun W => (W.cell? ⟨X, 0, none⟩ = some (.int .i64 (n : Int)) ∧ W.cell? ⟨X, 1, none⟩ = some (.int .i64 0)) ∧ W.cell? ⟨w2.heap.size, 0, none⟩ = some (.string ⟨#[]⟩))) (fun _ h => h.1) _ _ _ _ ?_
              replace hHeld : (fun W => (W.cell? ⟨X, 0, none⟩ = some (.int .i64 (n : Int)) ∧ W.cell? ⟨X, 1, none⟩ = some (.int .i64 0)) ∧ W.cell? ⟨w2.heap.size, 0, none⟩ = some (.string ⟨#[]⟩)) (w2.alloc (.cells #[.string ⟨#[]⟩, .string ⟨#[116]⟩, .string ⟨#[115]⟩] 9)) := ⟨SK.out _ b3, x3⟩
              refine wpAnyH_take (i := 8) (oi := { dst := some 48, op := Op.indexAddr 56 (Operand.tmp 45) (Operand.tmp 47), type := 0, pos := "ref.go:86", after := #[{ on := 5, ground := Ground.data }, { on := 7, ground := Ground.data }], guard := none }) (v := ?_) rfl (by kernel_rfl) (by kernel_rfl) (by kernel_rfl) (fun _ _ _ h => h) (Or.inl ⟨by rfl, ?_⟩) (by assumption) ?_
              rotate_left
              · intro w hSw; (try dsimp only at hSw); go_simp; try with_reducible rfl
              (try simp only [Act.put, List.setIfInBounds_toArray, List.set_cons_zero, List.set_cons_succ])
              refine wpAnyH_take (i := 9) (oi := { dst := some 49, op := Op.load 9 (Operand.tmp 48), type := 9, pos := "ref.go:86", after := #[{ on := 8, ground := Ground.data }], guard := none }) (v := ?_) rfl (by kernel_rfl) (by kernel_rfl) (by kernel_rfl) (fun _ _ _ h => h) (Or.inl ⟨by rfl, ?_⟩) (by assumption) ?_
              rotate_left
              · intro w hSw; (try dsimp only at hSw); go_simp; try with_reducible rfl
              (try simp only [Act.put, List.setIfInBounds_toArray, List.set_cons_zero, List.set_cons_succ])
              refine wpAnyH_take (i := 10) (oi := { dst := some 50, op := Op.binOp BinOp.add 9 (Operand.tmp 44) (Operand.tmp 49) 9, type := 9, pos := "ref.go:86", after := #[{ on := 4, ground := Ground.data }, { on := 9, ground := Ground.data }], guard := none }) (v := ?_) rfl (by kernel_rfl) (by kernel_rfl) (by kernel_rfl) (fun _ _ _ h => h) (Or.inl ⟨by rfl, ?_⟩) (by assumption) ?_
              rotate_left
              · intro w hSw; (try dsimp only at hSw); go_simp; try with_reducible rfl
              (try simp only [Act.put, List.setIfInBounds_toArray, List.set_cons_zero, List.set_cons_succ])
              refine wpAnyH_ready (rs := [11]) (by kernel_rfl) (by simp) ?_
              refine AllReadyH.cons rfl (fun K hK => ?_) AllReadyH.nil
              go_wp2_with fail
              refine hK.out _ _ hHeld (fun hHeld => ?_)
              clear hK K
              (try dsimp only [Act.put]); (try simp only [Act.put, List.setIfInBounds_toArray, List.set_cons_zero, List.set_cons_succ])
              refine wpAnyH_done (by kernel_rfl) ?_ _
              go_wp2
              exact ⟨⟨k + 1, U ++ Lib.decDigits n ++ [], congrArg Value.string (bytes_app (U ++ Lib.decDigits n) []), by go_num, by omega, by simp only [List.length_append, List.length_cons, List.length_nil]; omega, Lib.hid (by rw [← hN.out, hw.out, ← List.append_assoc]; rfl), HBX.out.trans (b3.mono HBX.out.size)⟩, by simp [intOf]; omega⟩
            · refine AllReadyH.cons rfl (fun K hK => ?_) AllReadyH.nil
              go_simp
              have b2 : Below W0.heap.size W0 (W0.drew.alloc (.cells #[.string ⟨#[]⟩, .string ⟨#[116]⟩, .string ⟨#[115]⟩] 9)) := bd.alloc (Nat.le_refl _) _
              have hN2 : Blk (W0.drew.alloc (.cells #[.string ⟨#[]⟩, .string ⟨#[116]⟩, .string ⟨#[115]⟩] 9)) W0.drew.heap.size 9 #[.string ⟨#[]⟩, .string ⟨#[116]⟩, .string ⟨#[115]⟩] := Blk.new _ _ _
              have x2 : (W0.drew.alloc (.cells #[.string ⟨#[]⟩, .string ⟨#[116]⟩, .string ⟨#[115]⟩] 9)).cell? ⟨W0.heap.size, 0, none⟩ = some (.string ⟨#[]⟩) := hN2.cell 0 _ rfl
              go_wp2_with fail
              refine hK.out _ _ (SK.out _ b2) (fun hHeld => ?_)
              clear hK K
              (try dsimp only [Act.put]); (try simp only [Act.put, List.setIfInBounds_toArray, List.set_cons_zero, List.set_cons_succ])
              refine wpAnyH_more7 (S' := (fun W => (W.cell? ⟨X, 0, none⟩ = some (.int .i64 (n : Int)) ∧ W.cell? ⟨X, 1, none⟩ = some (.int .i64 0)) ∧ W.cell? ⟨W0.heap.size, 0, none⟩ = some (.string ⟨#[]⟩))) (fun _ h => h.1) _ _ _ _ ?_
              replace hHeld : (fun W => (W.cell? ⟨X, 0, none⟩ = some (.int .i64 (n : Int)) ∧ W.cell? ⟨X, 1, none⟩ = some (.int .i64 0)) ∧ W.cell? ⟨W0.heap.size, 0, none⟩ = some (.string ⟨#[]⟩)) (W0.drew.alloc (.cells #[.string ⟨#[]⟩, .string ⟨#[116]⟩, .string ⟨#[115]⟩] 9)) := ⟨SK.out _ b2, x2⟩
              refine wpAnyH_take (i := 8) (oi := { dst := some 48, op := Op.indexAddr 56 (Operand.tmp 45) (Operand.tmp 47), type := 0, pos := "ref.go:86", after := #[{ on := 5, ground := Ground.data }, { on := 7, ground := Ground.data }], guard := none }) (v := ?_) rfl (by kernel_rfl) (by kernel_rfl) (by kernel_rfl) (fun _ _ _ h => h) (Or.inl ⟨by rfl, ?_⟩) (by assumption) ?_
              rotate_left
              · intro w hSw; (try dsimp only at hSw); go_simp; try with_reducible rfl
              (try simp only [Act.put, List.setIfInBounds_toArray, List.set_cons_zero, List.set_cons_succ])
              refine wpAnyH_take (i := 9) (oi := { dst := some 49, op := Op.load 9 (Operand.tmp 48), type := 9, pos := "ref.go:86", after := #[{ on := 8, ground := Ground.data }], guard := none }) (v := ?_) rfl (by kernel_rfl) (by kernel_rfl) (by kernel_rfl) (fun _ _ _ h => h) (Or.inl ⟨by rfl, ?_⟩) (by assumption) ?_
              rotate_left
              · intro w hSw; (try dsimp only at hSw); go_simp; try with_reducible rfl
              (try simp only [Act.put, List.setIfInBounds_toArray, List.set_cons_zero, List.set_cons_succ])
              refine wpAnyH_ready (rs := [3]) (by kernel_rfl) (by simp) ?_
              refine AllReadyH.cons rfl (fun K hK => ?_) AllReadyH.nil
              go_simp
              go_at_call 27
              refine (HD.out n hn9 _).mono ?_
              rintro e w3 ⟨rfl, hb3⟩
              have b3 : Below W0.heap.size W0 w3 := b2.trans (hb3.mono b2.size)
              have x3 : w3.cell? ⟨W0.heap.size, 0, none⟩ = some (.string ⟨#[]⟩) := (hN2.below hb3 hN2.lt).cell 0 _ rfl
              go_wp2_with fail
              refine hK.out _ _ ⟨SK.out _ b3, x3⟩ (fun hHeld => ?_)
              clear hK K
              (try dsimp only [Act.put]); (try simp only [Act.put, List.setIfInBounds_toArray, List.set_cons_zero, List.set_cons_succ])
              refine wpAnyH_take (i := 4) (oi := { dst := some 44, op := Op.binOp BinOp.add 9 (Operand.tmp 40) (Operand.tmp 43) 9, type := 9, pos := "ref.go:86", after := #[{ on := 0, ground := Ground.data }, { on := 3, ground := Ground.data }], guard := none }) (v := ?_) rfl (by kernel_rfl) (by kernel_rfl) (by kernel_rfl) (fun _ _ _ h => h) (Or.inl ⟨by rfl, ?_⟩) (by assumption) ?_
              rotate_left
              · intro w hSw; (try dsimp only at hSw); go_simp; try with_reducible rfl
              (try simp only [Act.put, List.setIfInBounds_toArray, List.set_cons_zero, List.set_cons_succ])
              refine wpAnyH_take (i := 10) (oi := { dst := some 50, op := Op.binOp BinOp.add 9 (Operand.tmp 44) (Operand.tmp 49) 9, type := 9, pos := "ref.go:86", after := #[{ on := 4, ground := Ground.data }, { on := 9, ground := Ground.data }], guard := none }) (v := ?_) rfl (by kernel_rfl) (by kernel_rfl) (by kernel_rfl) (fun _ _ _ h => h) (Or.inl ⟨by rfl, ?_⟩) (by assumption) ?_
              rotate_left
              · intro w hSw; (try dsimp only at hSw); go_simp; try with_reducible rfl
              (try simp only [Act.put, List.setIfInBounds_toArray, List.set_cons_zero, List.set_cons_succ])
              refine wpAnyH_ready (rs := [11]) (by kernel_rfl) (by simp) ?_
              refine AllReadyH.cons rfl (fun K hK => ?_) AllReadyH.nil
              go_wp2_with fail
              refine hK.out _ _ hHeld (fun hHeld => ?_)
              clear hK K
              (try dsimp only [Act.put]); (try simp only [Act.put, List.setIfInBounds_toArray, List.set_cons_zero, List.set_cons_succ])
              refine wpAnyH_done (by kernel_rfl) ?_ _
              go_wp2
              exact ⟨⟨k + 1, U ++ Lib.decDigits n ++ [], congrArg Value.string (bytes_app (U ++ Lib.decDigits n) []), by go_num, by omega, by simp only [List.length_append, List.length_cons, List.length_nil]; omega, Lib.hid (by rw [← hN.out, hw.out, ← List.append_assoc]; rfl), HBX.out.trans (b3.mono HBX.out.size)⟩, by simp [intOf]; omega⟩
          · go_upto_region 10 with fail
            have hX : Blk (wr.alloc (.cells #[.int .i64 (n : Int), .int .i64 1] 46)) wr.heap.size 46 #[.int .i64 (n : Int), .int .i64 1] := Blk.new _ _ _
            have hBX : Below w.heap.size w (wr.alloc (.cells #[.int .i64 (n : Int), .int .i64 1] 46)) := hb.alloc hh _
            generalize wr.alloc (.cells #[.int .i64 (n : Int), .int .i64 1] 46) = W0 at *
            generalize wr.heap.size = X at *
            have HX := Lib.hid hX
            have HBX := Lib.hid hBX
            clear hX hBX hb c0 c1
            have SK : Hid (∀ W, Below W0.heap.size W0 W → W.cell? ⟨X, 0, none⟩ = some (.int .i64 (n : Int)) ∧ W.cell? ⟨X, 1, none⟩ = some (.int .i64 1)) := Lib.hid fun W hB => ⟨(HX.out.below hB HX.out.lt).cell 0 _ rfl, (HX.out.below hB HX.out.lt).cell 1 _ rfl⟩
            have bd : Below W0.heap.size W0 W0.drew := (Below.refl _ W0).drew
            have hDl : ¬ 9223372036854775807 < U.length + (Lib.decDigits n).length := by omega
            have hDl2 : ¬ 9223372036854775807 < U.length + (Lib.decDigits n).length + 1 := by omega
            have hcc : ({ data := U.toArray } : ByteArray) ++ { data := (Lib.decDigits n).toArray } = { data := (U ++ Lib.decDigits n).toArray } := bytes_app _ _
            refine wp_region_held_drew (S := (fun W => W.cell? ⟨X, 0, none⟩ = some (.int .i64 (n : Int)) ∧ W.cell? ⟨X, 1, none⟩ = some (.int .i64 1))) (by kernel_rfl) (SK.out _ bd) (fun hHeld => ?_)
            refine wpAnyH_take (i := 0) (oi := _) (v := ?_) rfl (by kernel_rfl) (by kernel_rfl) (by kernel_rfl) (fun _ _ _ h => h) (Or.inl ⟨by rfl, ?_⟩) (by assumption) ?_
            rotate_left
            · intro w hSw; (try dsimp only at hSw); go_simp; try with_reducible rfl
            (try simp only [Act.put, List.setIfInBounds_toArray, List.set_cons_zero, List.set_cons_succ])
            refine wpAnyH_take (i := 1) (oi := _) (v := ?_) rfl (by kernel_rfl) (by kernel_rfl) (by kernel_rfl) (fun _ _ _ h => h) (Or.inl ⟨by rfl, ?_⟩) (by assumption) ?_
            rotate_left
            · intro w hSw; (try dsimp only at hSw); go_simp; try with_reducible rfl
            (try simp only [Act.put, List.setIfInBounds_toArray, List.set_cons_zero, List.set_cons_succ])
            refine wpAnyH_take (i := 2) (oi := _) (v := ?_) rfl (by kernel_rfl) (by kernel_rfl) (by kernel_rfl) (fun _ _ _ h => h) (Or.inl ⟨by rfl, ?_⟩) (by assumption) ?_
            rotate_left
            · intro w hSw; (try dsimp only at hSw); go_simp; try with_reducible rfl
            (try simp only [Act.put, List.setIfInBounds_toArray, List.set_cons_zero, List.set_cons_succ])
            refine wpAnyH_take (i := 6) (oi := _) (v := ?_) rfl (by kernel_rfl) (by kernel_rfl) (by kernel_rfl) (fun _ _ _ h => h) (Or.inl ⟨by rfl, ?_⟩) (by assumption) ?_
            rotate_left
            · intro w hSw; (try dsimp only at hSw); go_simp; try with_reducible rfl
            (try simp only [Act.put, List.setIfInBounds_toArray, List.set_cons_zero, List.set_cons_succ])
            refine wpAnyH_take (i := 7) (oi := _) (v := ?_) rfl (by kernel_rfl) (by kernel_rfl) (by kernel_rfl) (fun _ _ _ h => h) (Or.inl ⟨by rfl, ?_⟩) (by assumption) ?_
            rotate_left
            · intro w hSw; (try dsimp only at hSw); go_simp; try with_reducible rfl
            (try simp only [Act.put, List.setIfInBounds_toArray, List.set_cons_zero, List.set_cons_succ])
            refine wpAnyH_ready (rs := [3, 5]) (by kernel_rfl) (by simp) ?_
            refine AllReadyH.cons rfl (fun K hK => ?_) ?_
            · go_simp
              go_at_call 27
              refine (HD.out n hn9 _).mono ?_
              rintro e w2 ⟨rfl, hb2⟩
              have b2 : Below W0.heap.size W0 w2 := bd.trans hb2
              go_wp2_with fail
              refine hK.out _ _ (SK.out _ b2) (fun hHeld => ?_)
              clear hK K
              (try dsimp only [Act.put]); (try simp only [Act.put, List.setIfInBounds_toArray, List.set_cons_zero, List.set_cons_succ])
              refine wpAnyH_take (i := 4) (oi := { dst := some 44, op := Op.binOp BinOp.add 9 (Operand.tmp 40) (Operand.tmp 43) 9, type := 9, pos := "ref.go:86", after := #[{ on := 0, ground := Ground.data }, { on := 3, ground := Ground.data }], guard := none }) (v := ?_) rfl (by kernel_rfl) (by kernel_rfl) (by kernel_rfl) (fun _ _ _ h => h) (Or.inl ⟨by rfl, ?_⟩) (by assumption) ?_
              rotate_left
              · intro w hSw; (try dsimp only at hSw); go_simp; try with_reducible rfl
              (try simp only [Act.put, List.setIfInBounds_toArray, List.set_cons_zero, List.set_cons_succ])
              refine wpAnyH_ready (rs := [5]) (by kernel_rfl) (by simp) ?_
              refine AllReadyH.cons rfl (fun K hK => ?_) AllReadyH.nil
              go_simp
              have b3 : Below W0.heap.size W0 (w2.alloc (.cells #[.string ⟨#[]⟩, .string ⟨#[116]⟩, .string ⟨#[115]⟩] 9)) := b2.alloc b2.size _
              have hN3 : Blk (w2.alloc (.cells #[.string ⟨#[]⟩, .string ⟨#[116]⟩, .string ⟨#[115]⟩] 9)) w2.heap.size 9 #[.string ⟨#[]⟩, .string ⟨#[116]⟩, .string ⟨#[115]⟩] := Blk.new _ _ _
              have x3 : (w2.alloc (.cells #[.string ⟨#[]⟩, .string ⟨#[116]⟩, .string ⟨#[115]⟩] 9)).cell? ⟨w2.heap.size, 1, none⟩ = some (.string ⟨#[116]⟩) := hN3.cell 1 _ rfl
              go_wp2_with fail
              refine hK.out _ _ (SK.out _ b3) (fun hHeld => ?_)
              clear hK K
              (try dsimp only [Act.put]); (try simp only [Act.put, List.setIfInBounds_toArray, List.set_cons_zero, List.set_cons_succ])
              refine wpAnyH_more7 (S' := (fun W => (W.cell? ⟨X, 0, none⟩ = some (.int .i64 (n : Int)) ∧ W.cell? ⟨X, 1, none⟩ = some (.int .i64 1)) ∧ W.cell? ⟨w2.heap.size, 1, none⟩ = some (.string ⟨#[116]⟩))) (fun _ h => h.1) _ _ _ _ ?_
              replace hHeld : (fun W => (W.cell? ⟨X, 0, none⟩ = some (.int .i64 (n : Int)) ∧ W.cell? ⟨X, 1, none⟩ = some (.int .i64 1)) ∧ W.cell? ⟨w2.heap.size, 1, none⟩ = some (.string ⟨#[116]⟩)) (w2.alloc (.cells #[.string ⟨#[]⟩, .string ⟨#[116]⟩, .string ⟨#[115]⟩] 9)) := ⟨SK.out _ b3, x3⟩
              refine wpAnyH_take (i := 8) (oi := { dst := some 48, op := Op.indexAddr 56 (Operand.tmp 45) (Operand.tmp 47), type := 0, pos := "ref.go:86", after := #[{ on := 5, ground := Ground.data }, { on := 7, ground := Ground.data }], guard := none }) (v := ?_) rfl (by kernel_rfl) (by kernel_rfl) (by kernel_rfl) (fun _ _ _ h => h) (Or.inl ⟨by rfl, ?_⟩) (by assumption) ?_
              rotate_left
              · intro w hSw; (try dsimp only at hSw); go_simp; try with_reducible rfl
              (try simp only [Act.put, List.setIfInBounds_toArray, List.set_cons_zero, List.set_cons_succ])
              refine wpAnyH_take (i := 9) (oi := { dst := some 49, op := Op.load 9 (Operand.tmp 48), type := 9, pos := "ref.go:86", after := #[{ on := 8, ground := Ground.data }], guard := none }) (v := ?_) rfl (by kernel_rfl) (by kernel_rfl) (by kernel_rfl) (fun _ _ _ h => h) (Or.inl ⟨by rfl, ?_⟩) (by assumption) ?_
              rotate_left
              · intro w hSw; (try dsimp only at hSw); go_simp; try with_reducible rfl
              (try simp only [Act.put, List.setIfInBounds_toArray, List.set_cons_zero, List.set_cons_succ])
              refine wpAnyH_take (i := 10) (oi := { dst := some 50, op := Op.binOp BinOp.add 9 (Operand.tmp 44) (Operand.tmp 49) 9, type := 9, pos := "ref.go:86", after := #[{ on := 4, ground := Ground.data }, { on := 9, ground := Ground.data }], guard := none }) (v := ?_) rfl (by kernel_rfl) (by kernel_rfl) (by kernel_rfl) (fun _ _ _ h => h) (Or.inl ⟨by rfl, ?_⟩) (by assumption) ?_
              rotate_left
              · intro w hSw; (try dsimp only at hSw); go_simp; try with_reducible rfl
              (try simp only [Act.put, List.setIfInBounds_toArray, List.set_cons_zero, List.set_cons_succ])
              refine wpAnyH_ready (rs := [11]) (by kernel_rfl) (by simp) ?_
              refine AllReadyH.cons rfl (fun K hK => ?_) AllReadyH.nil
              go_wp2_with fail
              refine hK.out _ _ hHeld (fun hHeld => ?_)
              clear hK K
              (try dsimp only [Act.put]); (try simp only [Act.put, List.setIfInBounds_toArray, List.set_cons_zero, List.set_cons_succ])
              refine wpAnyH_done (by kernel_rfl) ?_ _
              go_wp2
              exact ⟨⟨k + 1, U ++ Lib.decDigits n ++ [116], congrArg Value.string (bytes_app (U ++ Lib.decDigits n) [116]), by go_num, by omega, by simp only [List.length_append, List.length_cons, List.length_nil]; omega, Lib.hid (by rw [← hN.out, hw.out, ← List.append_assoc]; rfl), HBX.out.trans (b3.mono HBX.out.size)⟩, by simp [intOf]; omega⟩
            · refine AllReadyH.cons rfl (fun K hK => ?_) AllReadyH.nil
              go_simp
              have b2 : Below W0.heap.size W0 (W0.drew.alloc (.cells #[.string ⟨#[]⟩, .string ⟨#[116]⟩, .string ⟨#[115]⟩] 9)) := bd.alloc (Nat.le_refl _) _
              have hN2 : Blk (W0.drew.alloc (.cells #[.string ⟨#[]⟩, .string ⟨#[116]⟩, .string ⟨#[115]⟩] 9)) W0.drew.heap.size 9 #[.string ⟨#[]⟩, .string ⟨#[116]⟩, .string ⟨#[115]⟩] := Blk.new _ _ _
              have x2 : (W0.drew.alloc (.cells #[.string ⟨#[]⟩, .string ⟨#[116]⟩, .string ⟨#[115]⟩] 9)).cell? ⟨W0.heap.size, 1, none⟩ = some (.string ⟨#[116]⟩) := hN2.cell 1 _ rfl
              go_wp2_with fail
              refine hK.out _ _ (SK.out _ b2) (fun hHeld => ?_)
              clear hK K
              (try dsimp only [Act.put]); (try simp only [Act.put, List.setIfInBounds_toArray, List.set_cons_zero, List.set_cons_succ])
              refine wpAnyH_more7 (S' := (fun W => (W.cell? ⟨X, 0, none⟩ = some (.int .i64 (n : Int)) ∧ W.cell? ⟨X, 1, none⟩ = some (.int .i64 1)) ∧ W.cell? ⟨W0.heap.size, 1, none⟩ = some (.string ⟨#[116]⟩))) (fun _ h => h.1) _ _ _ _ ?_
              replace hHeld : (fun W => (W.cell? ⟨X, 0, none⟩ = some (.int .i64 (n : Int)) ∧ W.cell? ⟨X, 1, none⟩ = some (.int .i64 1)) ∧ W.cell? ⟨W0.heap.size, 1, none⟩ = some (.string ⟨#[116]⟩)) (W0.drew.alloc (.cells #[.string ⟨#[]⟩, .string ⟨#[116]⟩, .string ⟨#[115]⟩] 9)) := ⟨SK.out _ b2, x2⟩
              refine wpAnyH_take (i := 8) (oi := { dst := some 48, op := Op.indexAddr 56 (Operand.tmp 45) (Operand.tmp 47), type := 0, pos := "ref.go:86", after := #[{ on := 5, ground := Ground.data }, { on := 7, ground := Ground.data }], guard := none }) (v := ?_) rfl (by kernel_rfl) (by kernel_rfl) (by kernel_rfl) (fun _ _ _ h => h) (Or.inl ⟨by rfl, ?_⟩) (by assumption) ?_
              rotate_left
              · intro w hSw; (try dsimp only at hSw); go_simp; try with_reducible rfl
              (try simp only [Act.put, List.setIfInBounds_toArray, List.set_cons_zero, List.set_cons_succ])
              refine wpAnyH_take (i := 9) (oi := { dst := some 49, op := Op.load 9 (Operand.tmp 48), type := 9, pos := "ref.go:86", after := #[{ on := 8, ground := Ground.data }], guard := none }) (v := ?_) rfl (by kernel_rfl) (by kernel_rfl) (by kernel_rfl) (fun _ _ _ h => h) (Or.inl ⟨by rfl, ?_⟩) (by assumption) ?_
              rotate_left
              · intro w hSw; (try dsimp only at hSw); go_simp; try with_reducible rfl
              (try simp only [Act.put, List.setIfInBounds_toArray, List.set_cons_zero, List.set_cons_succ])
              refine wpAnyH_ready (rs := [3]) (by kernel_rfl) (by simp) ?_
              refine AllReadyH.cons rfl (fun K hK => ?_) AllReadyH.nil
              go_simp
              go_at_call 27
              refine (HD.out n hn9 _).mono ?_
              rintro e w3 ⟨rfl, hb3⟩
              have b3 : Below W0.heap.size W0 w3 := b2.trans (hb3.mono b2.size)
              have x3 : w3.cell? ⟨W0.heap.size, 1, none⟩ = some (.string ⟨#[116]⟩) := (hN2.below hb3 hN2.lt).cell 1 _ rfl
              go_wp2_with fail
              refine hK.out _ _ ⟨SK.out _ b3, x3⟩ (fun hHeld => ?_)
              clear hK K
              (try dsimp only [Act.put]); (try simp only [Act.put, List.setIfInBounds_toArray, List.set_cons_zero, List.set_cons_succ])
              refine wpAnyH_take (i := 4) (oi := { dst := some 44, op := Op.binOp BinOp.add 9 (Operand.tmp 40) (Operand.tmp 43) 9, type := 9, pos := "ref.go:86", after := #[{ on := 0, ground := Ground.data }, { on := 3, ground := Ground.data }], guard := none }) (v := ?_) rfl (by kernel_rfl) (by kernel_rfl) (by kernel_rfl) (fun _ _ _ h => h) (Or.inl ⟨by rfl, ?_⟩) (by assumption) ?_
              rotate_left
              · intro w hSw; (try dsimp only at hSw); go_simp; try with_reducible rfl
              (try simp only [Act.put, List.setIfInBounds_toArray, List.set_cons_zero, List.set_cons_succ])
              refine wpAnyH_take (i := 10) (oi := { dst := some 50, op := Op.binOp BinOp.add 9 (Operand.tmp 44) (Operand.tmp 49) 9, type := 9, pos := "ref.go:86", after := #[{ on := 4, ground := Ground.data }, { on := 9, ground := Ground.data }], guard := none }) (v := ?_) rfl (by kernel_rfl) (by kernel_rfl) (by kernel_rfl) (fun _ _ _ h => h) (Or.inl ⟨by rfl, ?_⟩) (by assumption) ?_
              rotate_left
              · intro w hSw; (try dsimp only at hSw); go_simp; try with_reducible rfl
              (try simp only [Act.put, List.setIfInBounds_toArray, List.set_cons_zero, List.set_cons_succ])
              refine wpAnyH_ready (rs := [11]) (by kernel_rfl) (by simp) ?_
              refine AllReadyH.cons rfl (fun K hK => ?_) AllReadyH.nil
              go_wp2_with fail
              refine hK.out _ _ hHeld (fun hHeld => ?_)
              clear hK K
              (try dsimp only [Act.put]); (try simp only [Act.put, List.setIfInBounds_toArray, List.set_cons_zero, List.set_cons_succ])
              refine wpAnyH_done (by kernel_rfl) ?_ _
              go_wp2
              exact ⟨⟨k + 1, U ++ Lib.decDigits n ++ [116], congrArg Value.string (bytes_app (U ++ Lib.decDigits n) [116]), by go_num, by omega, by simp only [List.length_append, List.length_cons, List.length_nil]; omega, Lib.hid (by rw [← hN.out, hw.out, ← List.append_assoc]; rfl), HBX.out.trans (b3.mono HBX.out.size)⟩, by simp [intOf]; omega⟩
          · go_upto_region 10 with fail
            have hX : Blk (wr.alloc (.cells #[.int .i64 (n : Int), .int .i64 2] 46)) wr.heap.size 46 #[.int .i64 (n : Int), .int .i64 2] := Blk.new _ _ _
            have hBX : Below w.heap.size w (wr.alloc (.cells #[.int .i64 (n : Int), .int .i64 2] 46)) := hb.alloc hh _
            generalize wr.alloc (.cells #[.int .i64 (n : Int), .int .i64 2] 46) = W0 at *
            generalize wr.heap.size = X at *
            have HX := Lib.hid hX
            have HBX := Lib.hid hBX
            clear hX hBX hb c0 c1
            have SK : Hid (∀ W, Below W0.heap.size W0 W → W.cell? ⟨X, 0, none⟩ = some (.int .i64 (n : Int)) ∧ W.cell? ⟨X, 1, none⟩ = some (.int .i64 2)) := Lib.hid fun W hB => ⟨(HX.out.below hB HX.out.lt).cell 0 _ rfl, (HX.out.below hB HX.out.lt).cell 1 _ rfl⟩
            have bd : Below W0.heap.size W0 W0.drew := (Below.refl _ W0).drew
            have hDl : ¬ 9223372036854775807 < U.length + (Lib.decDigits n).length := by omega
            have hDl2 : ¬ 9223372036854775807 < U.length + (Lib.decDigits n).length + 1 := by omega
            have hcc : ({ data := U.toArray } : ByteArray) ++ { data := (Lib.decDigits n).toArray } = { data := (U ++ Lib.decDigits n).toArray } := bytes_app _ _
            refine wp_region_held_drew (S := (fun W => W.cell? ⟨X, 0, none⟩ = some (.int .i64 (n : Int)) ∧ W.cell? ⟨X, 1, none⟩ = some (.int .i64 2))) (by kernel_rfl) (SK.out _ bd) (fun hHeld => ?_)
            refine wpAnyH_take (i := 0) (oi := _) (v := ?_) rfl (by kernel_rfl) (by kernel_rfl) (by kernel_rfl) (fun _ _ _ h => h) (Or.inl ⟨by rfl, ?_⟩) (by assumption) ?_
            rotate_left
            · intro w hSw; (try dsimp only at hSw); go_simp; try with_reducible rfl
            (try simp only [Act.put, List.setIfInBounds_toArray, List.set_cons_zero, List.set_cons_succ])
            refine wpAnyH_take (i := 1) (oi := _) (v := ?_) rfl (by kernel_rfl) (by kernel_rfl) (by kernel_rfl) (fun _ _ _ h => h) (Or.inl ⟨by rfl, ?_⟩) (by assumption) ?_
            rotate_left
            · intro w hSw; (try dsimp only at hSw); go_simp; try with_reducible rfl
            (try simp only [Act.put, List.setIfInBounds_toArray, List.set_cons_zero, List.set_cons_succ])
            refine wpAnyH_take (i := 2) (oi := _) (v := ?_) rfl (by kernel_rfl) (by kernel_rfl) (by kernel_rfl) (fun _ _ _ h => h) (Or.inl ⟨by rfl, ?_⟩) (by assumption) ?_
            rotate_left
            · intro w hSw; (try dsimp only at hSw); go_simp; try with_reducible rfl
            (try simp only [Act.put, List.setIfInBounds_toArray, List.set_cons_zero, List.set_cons_succ])
            refine wpAnyH_take (i := 6) (oi := _) (v := ?_) rfl (by kernel_rfl) (by kernel_rfl) (by kernel_rfl) (fun _ _ _ h => h) (Or.inl ⟨by rfl, ?_⟩) (by assumption) ?_
            rotate_left
            · intro w hSw; (try dsimp only at hSw); go_simp; try with_reducible rfl
            (try simp only [Act.put, List.setIfInBounds_toArray, List.set_cons_zero, List.set_cons_succ])
            refine wpAnyH_take (i := 7) (oi := _) (v := ?_) rfl (by kernel_rfl) (by kernel_rfl) (by kernel_rfl) (fun _ _ _ h => h) (Or.inl ⟨by rfl, ?_⟩) (by assumption) ?_
            rotate_left
            · intro w hSw; (try dsimp only at hSw); go_simp; try with_reducible rfl
            (try simp only [Act.put, List.setIfInBounds_toArray, List.set_cons_zero, List.set_cons_succ])
            refine wpAnyH_ready (rs := [3, 5]) (by kernel_rfl) (by simp) ?_
            refine AllReadyH.cons rfl (fun K hK => ?_) ?_
            · go_simp
              go_at_call 27
              refine (HD.out n hn9 _).mono ?_
              rintro e w2 ⟨rfl, hb2⟩
              have b2 : Below W0.heap.size W0 w2 := bd.trans hb2
              go_wp2_with fail
              refine hK.out _ _ (SK.out _ b2) (fun hHeld => ?_)
              clear hK K
              (try dsimp only [Act.put]); (try simp only [Act.put, List.setIfInBounds_toArray, List.set_cons_zero, List.set_cons_succ])
              refine wpAnyH_take (i := 4) (oi := { dst := some 44, op := Op.binOp BinOp.add 9 (Operand.tmp 40) (Operand.tmp 43) 9, type := 9, pos := "ref.go:86", after := #[{ on := 0, ground := Ground.data }, { on := 3, ground := Ground.data }], guard := none }) (v := ?_) rfl (by kernel_rfl) (by kernel_rfl) (by kernel_rfl) (fun _ _ _ h => h) (Or.inl ⟨by rfl, ?_⟩) (by assumption) ?_
              rotate_left
              · intro w hSw; (try dsimp only at hSw); go_simp; try with_reducible rfl
              (try simp only [Act.put, List.setIfInBounds_toArray, List.set_cons_zero, List.set_cons_succ])
              refine wpAnyH_ready (rs := [5]) (by kernel_rfl) (by simp) ?_
              refine AllReadyH.cons rfl (fun K hK => ?_) AllReadyH.nil
              go_simp
              have b3 : Below W0.heap.size W0 (w2.alloc (.cells #[.string ⟨#[]⟩, .string ⟨#[116]⟩, .string ⟨#[115]⟩] 9)) := b2.alloc b2.size _
              have hN3 : Blk (w2.alloc (.cells #[.string ⟨#[]⟩, .string ⟨#[116]⟩, .string ⟨#[115]⟩] 9)) w2.heap.size 9 #[.string ⟨#[]⟩, .string ⟨#[116]⟩, .string ⟨#[115]⟩] := Blk.new _ _ _
              have x3 : (w2.alloc (.cells #[.string ⟨#[]⟩, .string ⟨#[116]⟩, .string ⟨#[115]⟩] 9)).cell? ⟨w2.heap.size, 2, none⟩ = some (.string ⟨#[115]⟩) := hN3.cell 2 _ rfl
              go_wp2_with fail
              refine hK.out _ _ (SK.out _ b3) (fun hHeld => ?_)
              clear hK K
              (try dsimp only [Act.put]); (try simp only [Act.put, List.setIfInBounds_toArray, List.set_cons_zero, List.set_cons_succ])
              refine wpAnyH_more7 (S' := (fun W => (W.cell? ⟨X, 0, none⟩ = some (.int .i64 (n : Int)) ∧ W.cell? ⟨X, 1, none⟩ = some (.int .i64 2)) ∧ W.cell? ⟨w2.heap.size, 2, none⟩ = some (.string ⟨#[115]⟩))) (fun _ h => h.1) _ _ _ _ ?_
              replace hHeld : (fun W => (W.cell? ⟨X, 0, none⟩ = some (.int .i64 (n : Int)) ∧ W.cell? ⟨X, 1, none⟩ = some (.int .i64 2)) ∧ W.cell? ⟨w2.heap.size, 2, none⟩ = some (.string ⟨#[115]⟩)) (w2.alloc (.cells #[.string ⟨#[]⟩, .string ⟨#[116]⟩, .string ⟨#[115]⟩] 9)) := ⟨SK.out _ b3, x3⟩
              refine wpAnyH_take (i := 8) (oi := { dst := some 48, op := Op.indexAddr 56 (Operand.tmp 45) (Operand.tmp 47), type := 0, pos := "ref.go:86", after := #[{ on := 5, ground := Ground.data }, { on := 7, ground := Ground.data }], guard := none }) (v := ?_) rfl (by kernel_rfl) (by kernel_rfl) (by kernel_rfl) (fun _ _ _ h => h) (Or.inl ⟨by rfl, ?_⟩) (by assumption) ?_
              rotate_left
              · intro w hSw; (try dsimp only at hSw); go_simp; try with_reducible rfl
              (try simp only [Act.put, List.setIfInBounds_toArray, List.set_cons_zero, List.set_cons_succ])
              refine wpAnyH_take (i := 9) (oi := { dst := some 49, op := Op.load 9 (Operand.tmp 48), type := 9, pos := "ref.go:86", after := #[{ on := 8, ground := Ground.data }], guard := none }) (v := ?_) rfl (by kernel_rfl) (by kernel_rfl) (by kernel_rfl) (fun _ _ _ h => h) (Or.inl ⟨by rfl, ?_⟩) (by assumption) ?_
              rotate_left
              · intro w hSw; (try dsimp only at hSw); go_simp; try with_reducible rfl
              (try simp only [Act.put, List.setIfInBounds_toArray, List.set_cons_zero, List.set_cons_succ])
              refine wpAnyH_take (i := 10) (oi := { dst := some 50, op := Op.binOp BinOp.add 9 (Operand.tmp 44) (Operand.tmp 49) 9, type := 9, pos := "ref.go:86", after := #[{ on := 4, ground := Ground.data }, { on := 9, ground := Ground.data }], guard := none }) (v := ?_) rfl (by kernel_rfl) (by kernel_rfl) (by kernel_rfl) (fun _ _ _ h => h) (Or.inl ⟨by rfl, ?_⟩) (by assumption) ?_
              rotate_left
              · intro w hSw; (try dsimp only at hSw); go_simp; try with_reducible rfl
              (try simp only [Act.put, List.setIfInBounds_toArray, List.set_cons_zero, List.set_cons_succ])
              refine wpAnyH_ready (rs := [11]) (by kernel_rfl) (by simp) ?_
              refine AllReadyH.cons rfl (fun K hK => ?_) AllReadyH.nil
              go_wp2_with fail
              refine hK.out _ _ hHeld (fun hHeld => ?_)
              clear hK K
              (try dsimp only [Act.put]); (try simp only [Act.put, List.setIfInBounds_toArray, List.set_cons_zero, List.set_cons_succ])
              refine wpAnyH_done (by kernel_rfl) ?_ _
              go_wp2
              exact ⟨⟨k + 1, U ++ Lib.decDigits n ++ [115], congrArg Value.string (bytes_app (U ++ Lib.decDigits n) [115]), by go_num, by omega, by simp only [List.length_append, List.length_cons, List.length_nil]; omega, Lib.hid (by rw [← hN.out, hw.out, ← List.append_assoc]; rfl), HBX.out.trans (b3.mono HBX.out.size)⟩, by simp [intOf]; omega⟩
            · refine AllReadyH.cons rfl (fun K hK => ?_) AllReadyH.nil
              go_simp
              have b2 : Below W0.heap.size W0 (W0.drew.alloc (.cells #[.string ⟨#[]⟩, .string ⟨#[116]⟩, .string ⟨#[115]⟩] 9)) := bd.alloc (Nat.le_refl _) _
              have hN2 : Blk (W0.drew.alloc (.cells #[.string ⟨#[]⟩, .string ⟨#[116]⟩, .string ⟨#[115]⟩] 9)) W0.drew.heap.size 9 #[.string ⟨#[]⟩, .string ⟨#[116]⟩, .string ⟨#[115]⟩] := Blk.new _ _ _
              have x2 : (W0.drew.alloc (.cells #[.string ⟨#[]⟩, .string ⟨#[116]⟩, .string ⟨#[115]⟩] 9)).cell? ⟨W0.heap.size, 2, none⟩ = some (.string ⟨#[115]⟩) := hN2.cell 2 _ rfl
              go_wp2_with fail
              refine hK.out _ _ (SK.out _ b2) (fun hHeld => ?_)
              clear hK K
              (try dsimp only [Act.put]); (try simp only [Act.put, List.setIfInBounds_toArray, List.set_cons_zero, List.set_cons_succ])
              refine wpAnyH_more7 (S' := (fun W => (W.cell? ⟨X, 0, none⟩ = some (.int .i64 (n : Int)) ∧ W.cell? ⟨X, 1, none⟩ = some (.int .i64 2)) ∧ W.cell? ⟨W0.heap.size, 2, none⟩ = some (.string ⟨#[115]⟩))) (fun _ h => h.1) _ _ _ _ ?_
              replace hHeld : (fun W => (W.cell? ⟨X, 0, none⟩ = some (.int .i64 (n : Int)) ∧ W.cell? ⟨X, 1, none⟩ = some (.int .i64 2)) ∧ W.cell? ⟨W0.heap.size, 2, none⟩ = some (.string ⟨#[115]⟩)) (W0.drew.alloc (.cells #[.string ⟨#[]⟩, .string ⟨#[116]⟩, .string ⟨#[115]⟩] 9)) := ⟨SK.out _ b2, x2⟩
              refine wpAnyH_take (i := 8) (oi := { dst := some 48, op := Op.indexAddr 56 (Operand.tmp 45) (Operand.tmp 47), type := 0, pos := "ref.go:86", after := #[{ on := 5, ground := Ground.data }, { on := 7, ground := Ground.data }], guard := none }) (v := ?_) rfl (by kernel_rfl) (by kernel_rfl) (by kernel_rfl) (fun _ _ _ h => h) (Or.inl ⟨by rfl, ?_⟩) (by assumption) ?_
              rotate_left
              · intro w hSw; (try dsimp only at hSw); go_simp; try with_reducible rfl
              (try simp only [Act.put, List.setIfInBounds_toArray, List.set_cons_zero, List.set_cons_succ])
              refine wpAnyH_take (i := 9) (oi := { dst := some 49, op := Op.load 9 (Operand.tmp 48), type := 9, pos := "ref.go:86", after := #[{ on := 8, ground := Ground.data }], guard := none }) (v := ?_) rfl (by kernel_rfl) (by kernel_rfl) (by kernel_rfl) (fun _ _ _ h => h) (Or.inl ⟨by rfl, ?_⟩) (by assumption) ?_
              rotate_left
              · intro w hSw; (try dsimp only at hSw); go_simp; try with_reducible rfl
              (try simp only [Act.put, List.setIfInBounds_toArray, List.set_cons_zero, List.set_cons_succ])
              refine wpAnyH_ready (rs := [3]) (by kernel_rfl) (by simp) ?_
              refine AllReadyH.cons rfl (fun K hK => ?_) AllReadyH.nil
              go_simp
              go_at_call 27
              refine (HD.out n hn9 _).mono ?_
              rintro e w3 ⟨rfl, hb3⟩
              have b3 : Below W0.heap.size W0 w3 := b2.trans (hb3.mono b2.size)
              have x3 : w3.cell? ⟨W0.heap.size, 2, none⟩ = some (.string ⟨#[115]⟩) := (hN2.below hb3 hN2.lt).cell 2 _ rfl
              go_wp2_with fail
              refine hK.out _ _ ⟨SK.out _ b3, x3⟩ (fun hHeld => ?_)
              clear hK K
              (try dsimp only [Act.put]); (try simp only [Act.put, List.setIfInBounds_toArray, List.set_cons_zero, List.set_cons_succ])
              refine wpAnyH_take (i := 4) (oi := { dst := some 44, op := Op.binOp BinOp.add 9 (Operand.tmp 40) (Operand.tmp 43) 9, type := 9, pos := "ref.go:86", after := #[{ on := 0, ground := Ground.data }, { on := 3, ground := Ground.data }], guard := none }) (v := ?_) rfl (by kernel_rfl) (by kernel_rfl) (by kernel_rfl) (fun _ _ _ h => h) (Or.inl ⟨by rfl, ?_⟩) (by assumption) ?_
              rotate_left
              · intro w hSw; (try dsimp only at hSw); go_simp; try with_reducible rfl
              (try simp only [Act.put, List.setIfInBounds_toArray, List.set_cons_zero, List.set_cons_succ])
              refine wpAnyH_take (i := 10) (oi := { dst := some 50, op := Op.binOp BinOp.add 9 (Operand.tmp 44) (Operand.tmp 49) 9, type := 9, pos := "ref.go:86", after := #[{ on := 4, ground := Ground.data }, { on := 9, ground := Ground.data }], guard := none }) (v := ?_) rfl (by kernel_rfl) (by kernel_rfl) (by kernel_rfl) (fun _ _ _ h => h) (Or.inl ⟨by rfl, ?_⟩) (by assumption) ?_
              rotate_left
              · intro w hSw; (try dsimp only at hSw); go_simp; try with_reducible rfl
              (try simp only [Act.put, List.setIfInBounds_toArray, List.set_cons_zero, List.set_cons_succ])
              refine wpAnyH_ready (rs := [11]) (by kernel_rfl) (by simp) ?_
              refine AllReadyH.cons rfl (fun K hK => ?_) AllReadyH.nil
              go_wp2_with fail
              refine hK.out _ _ hHeld (fun hHeld => ?_)
              clear hK K
              (try dsimp only [Act.put]); (try simp only [Act.put, List.setIfInBounds_toArray, List.set_cons_zero, List.set_cons_succ])
              refine wpAnyH_done (by kernel_rfl) ?_ _
              go_wp2
              exact ⟨⟨k + 1, U ++ Lib.decDigits n ++ [115], congrArg Value.string (bytes_app (U ++ Lib.decDigits n) [115]), by go_num, by omega, by simp only [List.length_append, List.length_cons, List.length_nil]; omega, Lib.hid (by rw [← hN.out, hw.out, ← List.append_assoc]; rfl), HBX.out.trans (b3.mono HBX.out.size)⟩, by simp [intOf]; omega⟩
        · have hw : Hid (wordB (pu, pq) = [45]) := Lib.hid (by unfold wordB; rw [if_neg hok])
          have hql3 : ¬ 9223372036854775807 < U.length + 1 := by omega
          have hcases : pu < 0 ∨ (¬ pu < 0 ∧ 99999 < pu) ∨ (¬ pu < 0 ∧ ¬ 99999 < pu ∧ pq < 0) ∨ (¬ pu < 0 ∧ ¬ 99999 < pu ∧ ¬ pq < 0 ∧ 2 < pq) := by
            simp [okPk] at hok
            omega
          clear hok
          rcases hcases with r1 | ⟨r1, r2⟩ | ⟨r1, r2, r3⟩ | ⟨r1, r2, r3, r4⟩
          all_goals
            go_wp2
            exact ⟨⟨k + 1, U ++ [45], congrArg Value.string (bytes_app U [45]), by go_num, by omega, by simp only [List.length_append, List.length_cons, List.length_nil]; omega, Lib.hid (by rw [← hN.out, hw.out]), hb.alloc hh _⟩, by simp [intOf]; omega⟩
      · have g2 : (0 : Int) < (k : Int) := by omega
        have hcc0 : ({ data := T.toArray } : ByteArray) ++ { data := #[32] } = { data := U.toArray } := by rw [hU.out, if_pos h0]; exact bytes_app T [32]
        go_upto_region 7 with fail
        clear hcc0 hTl hql hT hU
        by_cases hok : okPk (pu, pq) = true
        · have hok2 := hok
          simp [okPk] at hok2
          obtain ⟨⟨q0, q1⟩, q2, q3⟩ := hok2
          obtain ⟨n, rfl⟩ := Int.eq_ofNat_of_zero_le q0
          have hw : Hid (wordB ((n : Int), pq) = Lib.decDigits n ++ letterB pq) := Lib.hid (by unfold wordB; rw [if_pos hok, Lib.itoa_nonneg])
          have hn9 : n ≤ 99999 := by omega
          have hdl := dec_len (u := n) (by omega)
          have g7 : ¬ (n : Int) < 0 := by omega
          have g8 : ¬ (99999 : Int) < (n : Int) := by omega
          clear hok
          have hq : pq = 0 ∨ pq = 1 ∨ pq = 2 := by omega
          rcases hq with rfl | rfl | rfl
          · go_upto_region 10 with fail
            have hX : Blk (wr.alloc (.cells #[.int .i64 (n : Int), .int .i64 0] 46)) wr.heap.size 46 #[.int .i64 (n : Int), .int .i64 0] := Blk.new _ _ _
            have hBX : Below w.heap.size w (wr.alloc (.cells #[.int .i64 (n : Int), .int .i64 0] 46)) := hb.alloc hh _
            generalize wr.alloc (.cells #[.int .i64 (n : Int), .int .i64 0] 46) = W0 at *
            generalize wr.heap.size = X at *
            have HX := Lib.hid hX
            have HBX := Lib.hid hBX
            clear hX hBX hb c0 c1
            have SK : Hid (∀ W, Below W0.heap.size W0 W → W.cell? ⟨X, 0, none⟩ = some (.int .i64 (n : Int)) ∧ W.cell? ⟨X, 1, none⟩ = some (.int .i64 0)) := Lib.hid fun W hB => ⟨(HX.out.below hB HX.out.lt).cell 0 _ rfl, (HX.out.below hB HX.out.lt).cell 1 _ rfl⟩
            have bd : Below W0.heap.size W0 W0.drew := (Below.refl _ W0).drew
            have hDl : ¬ 9223372036854775807 < U.length + (Lib.decDigits n).length := by omega
            have hDl2 : ¬ 9223372036854775807 < U.length + (Lib.decDigits n).length + 1 := by omega
            have hcc : ({ data := U.toArray } : ByteArray) ++ { data := (Lib.decDigits n).toArray } = { data := (U ++ Lib.decDigits n).toArray } := bytes_app _ _
            refine wp_region_held_drew (S := (fun W => W.cell? ⟨X, 0, none⟩ = some (.int .i64 (n : Int)) ∧ W.cell? ⟨X, 1, none⟩ = some (.int .i64 0))) (by kernel_rfl) (SK.out _ bd) (fun hHeld => ?_)
            refine wpAnyH_take (i := 0) (oi := _) (v := ?_) rfl (by kernel_rfl) (by kernel_rfl) (by kernel_rfl) (fun _ _ _ h => h) (Or.inl ⟨by rfl, ?_⟩) (by assumption) ?_
            rotate_left
            · intro w hSw; (try dsimp only at hSw); go_simp; try with_reducible rfl
            (try simp only [Act.put, List.setIfInBounds_toArray, List.set_cons_zero, List.set_cons_succ])
            refine wpAnyH_take (i := 1) (oi := _) (v := ?_) rfl (by kernel_rfl) (by kernel_rfl) (by kernel_rfl) (fun _ _ _ h => h) (Or.inl ⟨by rfl, ?_⟩) (by assumption) ?_
            rotate_left
            · intro w hSw; (try dsimp only at hSw); go_simp; try with_reducible rfl
            (try simp only [Act.put, List.setIfInBounds_toArray, List.set_cons_zero, List.set_cons_succ])
            refine wpAnyH_take (i := 2) (oi := _) (v := ?_) rfl (by kernel_rfl) (by kernel_rfl) (by kernel_rfl) (fun _ _ _ h => h) (Or.inl ⟨by rfl, ?_⟩) (by assumption) ?_
            rotate_left
            · intro w hSw; (try dsimp only at hSw); go_simp; try with_reducible rfl
            (try simp only [Act.put, List.setIfInBounds_toArray, List.set_cons_zero, List.set_cons_succ])
            refine wpAnyH_take (i := 6) (oi := _) (v := ?_) rfl (by kernel_rfl) (by kernel_rfl) (by kernel_rfl) (fun _ _ _ h => h) (Or.inl ⟨by rfl, ?_⟩) (by assumption) ?_
            rotate_left
            · intro w hSw; (try dsimp only at hSw); go_simp; try with_reducible rfl
            (try simp only [Act.put, List.setIfInBounds_toArray, List.set_cons_zero, List.set_cons_succ])
            refine wpAnyH_take (i := 7) (oi := _) (v := ?_) rfl (by kernel_rfl) (by kernel_rfl) (by kernel_rfl) (fun _ _ _ h => h) (Or.inl ⟨by rfl, ?_⟩) (by assumption) ?_
            rotate_left
            · intro w hSw; (try dsimp only at hSw); go_simp; try with_reducible rfl
            (try simp only [Act.put, List.setIfInBounds_toArray, List.set_cons_zero, List.set_cons_succ])
            refine wpAnyH_ready (rs := [3, 5]) (by kernel_rfl) (by simp) ?_
            refine AllReadyH.cons rfl (fun K hK => ?_) ?_
            · go_simp
              go_at_call 27
              refine (HD.out n hn9 _).mono ?_
              rintro e w2 ⟨rfl, hb2⟩
              have b2 : Below W0.heap.size W0 w2 := bd.trans hb2
              go_wp2_with fail
              refine hK.out _ _ (SK.out _ b2) (fun hHeld => ?_)
              clear hK K
              (try dsimp only [Act.put]); (try simp only [Act.put, List.setIfInBounds_toArray, List.set_cons_zero, List.set_cons_succ])
              refine wpAnyH_take (i := 4) (oi := { dst := some 44, op := Op.binOp BinOp.add 9 (Operand.tmp 40) (Operand.tmp 43) 9, type := 9, pos := "ref.go:86", after := #[{ on := 0, ground := Ground.data }, { on := 3, ground := Ground.data }], guard := none }) (v := ?_) rfl (by kernel_rfl) (by kernel_rfl) (by kernel_rfl) (fun _ _ _ h => h) (Or.inl ⟨by rfl, ?_⟩) (by assumption) ?_
              rotate_left
              · intro w hSw; (try dsimp only at hSw); go_simp; try with_reducible rfl
              (try simp only [Act.put, List.setIfInBounds_toArray, List.set_cons_zero, List.set_cons_succ])
              refine wpAnyH_ready (rs := [5]) (by kernel_rfl) (by simp) ?_
              refine AllReadyH.cons rfl (fun K hK => ?_) AllReadyH.nil
              go_simp
              have b3 : Below W0.heap.size W0 (w2.alloc (.cells #[.string ⟨#[]⟩, .string ⟨#[116]⟩, .string ⟨#[115]⟩] 9)) := b2.alloc b2.size _
              have hN3 : Blk (w2.alloc (.cells #[.string ⟨#[]⟩, .string ⟨#[116]⟩, .string ⟨#[115]⟩] 9)) w2.heap.size 9 #[.string ⟨#[]⟩, .string ⟨#[116]⟩, .string ⟨#[115]⟩] := Blk.new _ _ _
              have x3 : (w2.alloc (.cells #[.string ⟨#[]⟩, .string ⟨#[116]⟩, .string ⟨#[115]⟩] 9)).cell? ⟨w2.heap.size, 0, none⟩ = some (.string ⟨#[]⟩) := hN3.cell 0 _ rfl
              go_wp2_with fail
              refine hK.out _ _ (SK.out _ b3) (fun hHeld => ?_)
              clear hK K
              (try dsimp only [Act.put]); (try simp only [Act.put, List.setIfInBounds_toArray, List.set_cons_zero, List.set_cons_succ])
              refine wpAnyH_more7 (S' := (fun W => (W.cell? ⟨X, 0, none⟩ = some (.int .i64 (n : Int)) ∧ W.cell? ⟨X, 1, none⟩ = some (.int .i64 0)) ∧ W.cell? ⟨w2.heap.size, 0, none⟩ = some (.string ⟨#[]⟩))) (fun _ h => h.1) _ _ _ _ ?_
              replace hHeld : (fun W => (W.cell? ⟨X, 0, none⟩ = some (.int .i64 (n : Int)) ∧ W.cell? ⟨X, 1, none⟩ = some (.int .i64 0)) ∧ W.cell? ⟨w2.heap.size, 0, none⟩ = some (.string ⟨#[]⟩)) (w2.alloc (.cells #[.string ⟨#[]⟩, .string ⟨#[116]⟩, .string ⟨#[115]⟩] 9)) := ⟨SK.out _ b3, x3⟩
              refine wpAnyH_take (i := 8) (oi := { dst := some 48, op := Op.indexAddr 56 (Operand.tmp 45) (Operand.tmp 47), type := 0, pos := "ref.go:86", after := #[{ on := 5, ground := Ground.data }, { on := 7, ground := Ground.data }], guard := none }) (v := ?_) rfl (by kernel_rfl) (by kernel_rfl) (by kernel_rfl) (fun _ _ _ h => h) (Or.inl ⟨by rfl, ?_⟩) (by assumption) ?_
              rotate_left
              · intro w hSw; (try dsimp only at hSw); go_simp; try with_reducible rfl
              (try simp only [Act.put, List.setIfInBounds_toArray, List.set_cons_zero, List.set_cons_succ])
              refine wpAnyH_take (i := 9) (oi := { dst := some 49, op := Op.load 9 (Operand.tmp 48), type := 9, pos := "ref.go:86", after := #[{ on := 8, ground := Ground.data }], guard := none }) (v := ?_) rfl (by kernel_rfl) (by kernel_rfl) (by kernel_rfl) (fun _ _ _ h => h) (Or.inl ⟨by rfl, ?_⟩) (by assumption) ?_
              rotate_left
              · intro w hSw; (try dsimp only at hSw); go_simp; try with_reducible rfl
              (try simp only [Act.put, List.setIfInBounds_toArray, List.set_cons_zero, List.set_cons_succ])
              refine wpAnyH_take (i := 10) (oi := { dst := some 50, op := Op.binOp BinOp.add 9 (Operand.tmp 44) (Operand.tmp 49) 9, type := 9, pos := "ref.go:86", after := #[{ on := 4, ground := Ground.data }, { on := 9, ground := Ground.data }], guard := none }) (v := ?_) rfl (by kernel_rfl) (by kernel_rfl) (by kernel_rfl) (fun _ _ _ h => h) (Or.inl ⟨by rfl, ?_⟩) (by assumption) ?_
              rotate_left
              · intro w hSw; (try dsimp only at hSw); go_simp; try with_reducible rfl
              (try simp only [Act.put, List.setIfInBounds_toArray, List.set_cons_zero, List.set_cons_succ])
              refine wpAnyH_ready (rs := [11]) (by kernel_rfl) (by simp) ?_
              refine AllReadyH.cons rfl (fun K hK => ?_) AllReadyH.nil
              go_wp2_with fail
              refine hK.out _ _ hHeld (fun hHeld => ?_)
              clear hK K
              (try dsimp only [Act.put]); (try simp only [Act.put, List.setIfInBounds_toArray, List.set_cons_zero, List.set_cons_succ])
              refine wpAnyH_done (by kernel_rfl) ?_ _
              go_wp2
              exact ⟨⟨k + 1, U ++ Lib.decDigits n ++ [], congrArg Value.string (bytes_app (U ++ Lib.decDigits n) []), by go_num, by omega, by simp only [List.length_append, List.length_cons, List.length_nil]; omega, Lib.hid (by rw [← hN.out, hw.out, ← List.append_assoc]; rfl), HBX.out.trans (b3.mono HBX.out.size)⟩, by simp [intOf]; omega⟩
            · refine AllReadyH.cons rfl (fun K hK => ?_) AllReadyH.nil
              go_simp
              have b2 : Below W0.heap.size W0 (W0.drew.alloc (.cells #[.string ⟨#[]⟩, .string ⟨#[116]⟩, .string ⟨#[115]⟩] 9)) := bd.alloc (Nat.le_refl _) _
              have hN2 : Blk (W0.drew.alloc (.cells #[.string ⟨#[]⟩, .string ⟨#[116]⟩, .string ⟨#[115]⟩] 9)) W0.drew.heap.size 9 #[.string ⟨#[]⟩, .string ⟨#[116]⟩, .string ⟨#[115]⟩] := Blk.new _ _ _
              have x2 : (W0.drew.alloc (.cells #[.string ⟨#[]⟩, .string ⟨#[116]⟩, .string ⟨#[115]⟩] 9)).cell? ⟨W0.heap.size, 0, none⟩ = some (.string ⟨#[]⟩) := hN2.cell 0 _ rfl
              go_wp2_with fail
              refine hK.out _ _ (SK.out _ b2) (fun hHeld => ?_)
              clear hK K
              (try dsimp only [Act.put]); (try simp only [Act.put, List.setIfInBounds_toArray, List.set_cons_zero, List.set_cons_succ])
              refine wpAnyH_more7 (S' := (fun W => (W.cell? ⟨X, 0, none⟩ = some (.int .i64 (n : Int)) ∧ W.cell? ⟨X, 1, none⟩ = some (.int .i64 0)) ∧ W.cell? ⟨W0.heap.size, 0, none⟩ = some (.string ⟨#[]⟩))) (fun _ h => h.1) _ _ _ _ ?_
              replace hHeld : (fun W => (W.cell? ⟨X, 0, none⟩ = some (.int .i64 (n : Int)) ∧ W.cell? ⟨X, 1, none⟩ = some (.int .i64 0)) ∧ W.cell? ⟨W0.heap.size, 0, none⟩ = some (.string ⟨#[]⟩)) (W0.drew.alloc (.cells #[.string ⟨#[]⟩, .string ⟨#[116]⟩, .string ⟨#[115]⟩] 9)) := ⟨SK.out _ b2, x2⟩
              refine wpAnyH_take (i := 8) (oi := { dst := some 48, op := Op.indexAddr 56 (Operand.tmp 45) (Operand.tmp 47), type := 0, pos := "ref.go:86", after := #[{ on := 5, ground := Ground.data }, { on := 7, ground := Ground.data }], guard := none }) (v := ?_) rfl (by kernel_rfl) (by kernel_rfl) (by kernel_rfl) (fun _ _ _ h => h) (Or.inl ⟨by rfl, ?_⟩) (by assumption) ?_
              rotate_left
              · intro w hSw; (try dsimp only at hSw); go_simp; try with_reducible rfl
              (try simp only [Act.put, List.setIfInBounds_toArray, List.set_cons_zero, List.set_cons_succ])
              refine wpAnyH_take (i := 9) (oi := { dst := some 49, op := Op.load 9 (Operand.tmp 48), type := 9, pos := "ref.go:86", after := #[{ on := 8, ground := Ground.data }], guard := none }) (v := ?_) rfl (by kernel_rfl) (by kernel_rfl) (by kernel_rfl) (fun _ _ _ h => h) (Or.inl ⟨by rfl, ?_⟩) (by assumption) ?_
              rotate_left
              · intro w hSw; (try dsimp only at hSw); go_simp; try with_reducible rfl
              (try simp only [Act.put, List.setIfInBounds_toArray, List.set_cons_zero, List.set_cons_succ])
              refine wpAnyH_ready (rs := [3]) (by kernel_rfl) (by simp) ?_
              refine AllReadyH.cons rfl (fun K hK => ?_) AllReadyH.nil
              go_simp
              go_at_call 27
              refine (HD.out n hn9 _).mono ?_
              rintro e w3 ⟨rfl, hb3⟩
              have b3 : Below W0.heap.size W0 w3 := b2.trans (hb3.mono b2.size)
              have x3 : w3.cell? ⟨W0.heap.size, 0, none⟩ = some (.string ⟨#[]⟩) := (hN2.below hb3 hN2.lt).cell 0 _ rfl
              go_wp2_with fail
              refine hK.out _ _ ⟨SK.out _ b3, x3⟩ (fun hHeld => ?_)
              clear hK K
              (try dsimp only [Act.put]); (try simp only [Act.put, List.setIfInBounds_toArray, List.set_cons_zero, List.set_cons_succ])
              refine wpAnyH_take (i := 4) (oi := { dst := some 44, op := Op.binOp BinOp.add 9 (Operand.tmp 40) (Operand.tmp 43) 9, type := 9, pos := "ref.go:86", after := #[{ on := 0, ground := Ground.data }, { on := 3, ground := Ground.data }], guard := none }) (v := ?_) rfl (by kernel_rfl) (by kernel_rfl) (by kernel_rfl) (fun _ _ _ h => h) (Or.inl ⟨by rfl, ?_⟩) (by assumption) ?_
              rotate_left
              · intro w hSw; (try dsimp only at hSw); go_simp; try with_reducible rfl
              (try simp only [Act.put, List.setIfInBounds_toArray, List.set_cons_zero, List.set_cons_succ])
              refine wpAnyH_take (i := 10) (oi := { dst := some 50, op := Op.binOp BinOp.add 9 (Operand.tmp 44) (Operand.tmp 49) 9, type := 9, pos := "ref.go:86", after := #[{ on := 4, ground := Ground.data }, { on := 9, ground := Ground.data }], guard := none }) (v := ?_) rfl (by kernel_rfl) (by kernel_rfl) (by kernel_rfl) (fun _ _ _ h => h) (Or.inl ⟨by rfl, ?_⟩) (by assumption) ?_
              rotate_left
              · intro w hSw; (try dsimp only at hSw); go_simp; try with_reducible rfl
              (try simp only [Act.put, List.setIfInBounds_toArray, List.set_cons_zero, List.set_cons_succ])
              refine wpAnyH_ready (rs := [11]) (by kernel_rfl) (by simp) ?_
              refine AllReadyH.cons rfl (fun K hK => ?_) AllReadyH.nil
              go_wp2_with fail
              refine hK.out _ _ hHeld (fun hHeld => ?_)
              clear hK K
              (try dsimp only [Act.put]); (try simp only [Act.put, List.setIfInBounds_toArray, List.set_cons_zero, List.set_cons_succ])
              refine wpAnyH_done (by kernel_rfl) ?_ _
              go_wp2
              exact ⟨⟨k + 1, U ++ Lib.decDigits n ++ [], congrArg Value.string (bytes_app (U ++ Lib.decDigits n) []), by go_num, by omega, by simp only [List.length_append, List.length_cons, List.length_nil]; omega, Lib.hid (by rw [← hN.out, hw.out, ← List.append_assoc]; rfl), HBX.out.trans (b3.mono HBX.out.size)⟩, by simp [intOf]; omega⟩
          · go_upto_region 10 with fail
            have hX : Blk (wr.alloc (.cells #[.int .i64 (n : Int), .int .i64 1] 46)) wr.heap.size 46 #[.int .i64 (n : Int), .int .i64 1] := Blk.new _ _ _
            have hBX : Below w.heap.size w (wr.alloc (.cells #[.int .i64 (n : Int), .int .i64 1] 46)) := hb.alloc hh _
            generalize wr.alloc (.cells #[.int .i64 (n : Int), .int .i64 1] 46) = W0 at *
            generalize wr.heap.size = X at *
            have HX := Lib.hid hX
            have HBX := Lib.hid hBX
            clear hX hBX hb c0 c1
            have SK : Hid (∀ W, Below W0.heap.size W0 W → W.cell? ⟨X, 0, none⟩ = some (.int .i64 (n : Int)) ∧ W.cell? ⟨X, 1, none⟩ = some (.int .i64 1)) := Lib.hid fun W hB => ⟨(HX.out.below hB HX.out.lt).cell 0 _ rfl, (HX.out.below hB HX.out.lt).cell 1 _ rfl⟩
            have bd : Below W0.heap.size W0 W0.drew := (Below.refl _ W0).drew
            have hDl : ¬ 9223372036854775807 < U.length + (Lib.decDigits n).length := by omega
            have hDl2 : ¬ 9223372036854775807 < U.length + (Lib.decDigits n).length + 1 := by omega
            have hcc : ({ data := U.toArray } : ByteArray) ++ { data := (Lib.decDigits n).toArray } = { data := (U ++ Lib.decDigits n).toArray } := bytes_app _ _
            refine wp_region_held_drew (S := (fun W => W.cell? ⟨X, 0, none⟩ = some (.int .i64 (n : Int)) ∧ W.cell? ⟨X, 1, none⟩ = some (.int .i64 1))) (by kernel_rfl) (SK.out _ bd) (fun hHeld => ?_)
            refine wpAnyH_take (i := 0) (oi := _) (v := ?_) rfl (by kernel_rfl) (by kernel_rfl) (by kernel_rfl) (fun _ _ _ h => h) (Or.inl ⟨by rfl, ?_⟩) (by assumption) ?_
            rotate_left
            · intro w hSw; (try dsimp only at hSw); go_simp; try with_reducible rfl
            (try simp only [Act.put, List.setIfInBounds_toArray, List.set_cons_zero, List.set_cons_succ])
            refine wpAnyH_take (i := 1) (oi := _) (v := ?_) rfl (by kernel_rfl) (by kernel_rfl) (by kernel_rfl) (fun _ _ _ h => h) (Or.inl ⟨by rfl, ?_⟩) (by assumption) ?_
            rotate_left
            · intro w hSw; (try dsimp only at hSw); go_simp; try with_reducible rfl
            (try simp only [Act.put, List.setIfInBounds_toArray, List.set_cons_zero, List.set_cons_succ])
            refine wpAnyH_take (i := 2) (oi := _) (v := ?_) rfl (by kernel_rfl) (by kernel_rfl) (by kernel_rfl) (fun _ _ _ h => h) (Or.inl ⟨by rfl, ?_⟩) (by assumption) ?_
            rotate_left
            · intro w hSw; (try dsimp only at hSw); go_simp; try with_reducible rfl
            (try simp only [Act.put, List.setIfInBounds_toArray, List.set_cons_zero, List.set_cons_succ])
            refine wpAnyH_take (i := 6) (oi := _) (v := ?_) rfl (by kernel_rfl) (by kernel_rfl) (by kernel_rfl) (fun _ _ _ h => h) (Or.inl ⟨by rfl, ?_⟩) (by assumption) ?_
            rotate_left
            · intro w hSw; (try dsimp only at hSw); go_simp; try with_reducible rfl
            (try simp only [Act.put, List.setIfInBounds_toArray, List.set_cons_zero, List.set_cons_succ])
            refine wpAnyH_take (i := 7) (oi := _) (v := ?_) rfl (by kernel_rfl) (by kernel_rfl) (by kernel_rfl) (fun _ _ _ h => h) (Or.inl ⟨by rfl, ?_⟩) (by assumption) ?_
            rotate_left
            · intro w hSw; (try dsimp only at hSw); go_simp; try with_reducible rfl
            (try simp only [Act.put, List.setIfInBounds_toArray, List.set_cons_zero, List.set_cons_succ])
            refine wpAnyH_ready (rs := [3, 5]) (by kernel_rfl) (by simp) ?_
            refine AllReadyH.cons rfl (fun K hK => ?_) ?_
            · go_simp
              go_at_call 27
              refine (HD.out n hn9 _).mono ?_
              rintro e w2 ⟨rfl, hb2⟩
              have b2 : Below W0.heap.size W0 w2 := bd.trans hb2
              go_wp2_with fail
              refine hK.out _ _ (SK.out _ b2) (fun hHeld => ?_)
              clear hK K
              (try dsimp only [Act.put]); (try simp only [Act.put, List.setIfInBounds_toArray, List.set_cons_zero, List.set_cons_succ])
              refine wpAnyH_take (i := 4) (oi := { dst := some 44, op := Op.binOp BinOp.add 9 (Operand.tmp 40) (Operand.tmp 43) 9, type := 9, pos := "ref.go:86", after := #[{ on := 0, ground := Ground.data }, { on := 3, ground := Ground.data }], guard := none }) (v := ?_) rfl (by kernel_rfl) (by kernel_rfl) (by kernel_rfl) (fun _ _ _ h => h) (Or.inl ⟨by rfl, ?_⟩) (by assumption) ?_
              rotate_left
              · intro w hSw; (try dsimp only at hSw); go_simp; try with_reducible rfl
              (try simp only [Act.put, List.setIfInBounds_toArray, List.set_cons_zero, List.set_cons_succ])
              refine wpAnyH_ready (rs := [5]) (by kernel_rfl) (by simp) ?_
              refine AllReadyH.cons rfl (fun K hK => ?_) AllReadyH.nil
              go_simp
              have b3 : Below W0.heap.size W0 (w2.alloc (.cells #[.string ⟨#[]⟩, .string ⟨#[116]⟩, .string ⟨#[115]⟩] 9)) := b2.alloc b2.size _
              have hN3 : Blk (w2.alloc (.cells #[.string ⟨#[]⟩, .string ⟨#[116]⟩, .string ⟨#[115]⟩] 9)) w2.heap.size 9 #[.string ⟨#[]⟩, .string ⟨#[116]⟩, .string ⟨#[115]⟩] := Blk.new _ _ _
              have x3 : (w2.alloc (.cells #[.string ⟨#[]⟩, .string ⟨#[116]⟩, .string ⟨#[115]⟩] 9)).cell? ⟨w2.heap.size, 1, none⟩ = some (.string ⟨#[116]⟩) := hN3.cell 1 _ rfl
              go_wp2_with fail
              refine hK.out _ _ (SK.out _ b3) (fun hHeld => ?_)
              clear hK K
              (try dsimp only [Act.put]); (try simp only [Act.put, List.setIfInBounds_toArray, List.set_cons_zero, List.set_cons_succ])
              refine wpAnyH_more7 (S' := (fun W => (W.cell? ⟨X, 0, none⟩ = some (.int .i64 (n : Int)) ∧ W.cell? ⟨X, 1, none⟩ = some (.int .i64 1)) ∧ W.cell? ⟨w2.heap.size, 1, none⟩ = some (.string ⟨#[116]⟩))) (fun _ h => h.1) _ _ _ _ ?_
              replace hHeld : (fun W => (W.cell? ⟨X, 0, none⟩ = some (.int .i64 (n : Int)) ∧ W.cell? ⟨X, 1, none⟩ = some (.int .i64 1)) ∧ W.cell? ⟨w2.heap.size, 1, none⟩ = some (.string ⟨#[116]⟩)) (w2.alloc (.cells #[.string ⟨#[]⟩, .string ⟨#[116]⟩, .string ⟨#[115]⟩] 9)) := ⟨SK.out _ b3, x3⟩
              refine wpAnyH_take (i := 8) (oi := { dst := some 48, op := Op.indexAddr 56 (Operand.tmp 45) (Operand.tmp 47), type := 0, pos := "ref.go:86", after := #[{ on := 5, ground := Ground.data }, { on := 7, ground := Ground.data }], guard := none }) (v := ?_) rfl (by kernel_rfl) (by kernel_rfl) (by kernel_rfl) (fun _ _ _ h => h) (Or.inl ⟨by rfl, ?_⟩) (by assumption) ?_
              rotate_left
              · intro w hSw; (try dsimp only at hSw); go_simp; try with_reducible rfl
              (try simp only [Act.put, List.setIfInBounds_toArray, List.set_cons_zero, List.set_cons_succ])
              refine wpAnyH_take (i := 9) (oi := { dst := some 49, op := Op.load 9 (Operand.tmp 48), type := 9, pos := "ref.go:86", after := #[{ on := 8, ground := Ground.data }], guard := none }) (v := ?_) rfl (by kernel_rfl) (by kernel_rfl) (by kernel_rfl) (fun _ _ _ h => h) (Or.inl ⟨by rfl, ?_⟩) (by assumption) ?_
              rotate_left
              · intro w hSw; (try dsimp only at hSw); go_simp; try with_reducible rfl
              (try simp only [Act.put, List.setIfInBounds_toArray, List.set_cons_zero, List.set_cons_succ])
              refine wpAnyH_take (i := 10) (oi := { dst := some 50, op := Op.binOp BinOp.add 9 (Operand.tmp 44) (Operand.tmp 49) 9, type := 9, pos := "ref.go:86", after := #[{ on := 4, ground := Ground.data }, { on := 9, ground := Ground.data }], guard := none }) (v := ?_) rfl (by kernel_rfl) (by kernel_rfl) (by kernel_rfl) (fun _ _ _ h => h) (Or.inl ⟨by rfl, ?_⟩) (by assumption) ?_
              rotate_left
              · intro w hSw; (try dsimp only at hSw); go_simp; try with_reducible rfl
              (try simp only [Act.put, List.setIfInBounds_toArray, List.set_cons_zero, List.set_cons_succ])
              refine wpAnyH_ready (rs := [11]) (by kernel_rfl) (by simp) ?_
              refine AllReadyH.cons rfl (fun K hK => ?_) AllReadyH.nil
              go_wp2_with fail
              refine hK.out _ _ hHeld (fun hHeld => ?_)
              clear hK K
              (try dsimp only [Act.put]); (try simp only [Act.put, List.setIfInBounds_toArray, List.set_cons_zero, List.set_cons_succ])
              refine wpAnyH_done (by kernel_rfl) ?_ _
              go_wp2
              exact ⟨⟨k + 1, U ++ Lib.decDigits n ++ [116], congrArg Value.string (bytes_app (U ++ Lib.decDigits n) [116]), by go_num, by omega, by simp only [List.length_append, List.length_cons, List.length_nil]; omega, Lib.hid (by rw [← hN.out, hw.out, ← List.append_assoc]; rfl), HBX.out.trans (b3.mono HBX.out.size)⟩, by simp [intOf]; omega⟩
            · refine AllReadyH.cons rfl (fun K hK => ?_) AllReadyH.nil
              go_simp
              have b2 : Below W0.heap.size W0 (W0.drew.alloc (.cells #[.string ⟨#[]⟩, .string ⟨#[116]⟩, .string ⟨#[115]⟩] 9)) := bd.alloc (Nat.le_refl _) _
              have hN2 : Blk (W0.drew.alloc (.cells #[.string ⟨#[]⟩, .string ⟨#[116]⟩, .string ⟨#[115]⟩] 9)) W0.drew.heap.size 9 #[.string ⟨#[]⟩, .string ⟨#[116]⟩, .string ⟨#[115]⟩] := Blk.new _ _ _
              have x2 : (W0.drew.alloc (.cells #[.string ⟨#[]⟩, .string ⟨#[116]⟩, .string ⟨#[115]⟩] 9)).cell? ⟨W0.heap.size, 1, none⟩ = some (.string ⟨#[116]⟩) := hN2.cell 1 _ rfl
              go_wp2_with fail
              refine hK.out _ _ (SK.out _ b2) (fun hHeld => ?_)
              clear hK K
              (try dsimp only [Act.put]); (try simp only [Act.put, List.setIfInBounds_toArray, List.set_cons_zero, List.set_cons_succ])
              refine wpAnyH_more7 (S' := (fun W => (W.cell? ⟨X, 0, none⟩ = some (.int .i64 (n : Int)) ∧ W.cell? ⟨X, 1, none⟩ = some (.int .i64 1)) ∧ W.cell? ⟨W0.heap.size, 1, none⟩ = some (.string ⟨#[116]⟩))) (fun _ h => h.1) _ _ _ _ ?_
              replace hHeld : (fun W => (W.cell? ⟨X, 0, none⟩ = some (.int .i64 (n : Int)) ∧ W.cell? ⟨X, 1, none⟩ = some (.int .i64 1)) ∧ W.cell? ⟨W0.heap.size, 1, none⟩ = some (.string ⟨#[116]⟩)) (W0.drew.alloc (.cells #[.string ⟨#[]⟩, .string ⟨#[116]⟩, .string ⟨#[115]⟩] 9)) := ⟨SK.out _ b2, x2⟩
              refine wpAnyH_take (i := 8) (oi := { dst := some 48, op := Op.indexAddr 56 (Operand.tmp 45) (Operand.tmp 47), type := 0, pos := "ref.go:86", after := #[{ on := 5, ground := Ground.data }, { on := 7, ground := Ground.data }], guard := none }) (v := ?_) rfl (by kernel_rfl) (by kernel_rfl) (by kernel_rfl) (fun _ _ _ h => h) (Or.inl ⟨by rfl, ?_⟩) (by assumption) ?_
              rotate_left
              · intro w hSw; (try dsimp only at hSw); go_simp; try with_reducible rfl
              (try simp only [Act.put, List.setIfInBounds_toArray, List.set_cons_zero, List.set_cons_succ])
              refine wpAnyH_take (i := 9) (oi := { dst := some 49, op := Op.load 9 (Operand.tmp 48), type := 9, pos := "ref.go:86", after := #[{ on := 8, ground := Ground.data }], guard := none }) (v := ?_) rfl (by kernel_rfl) (by kernel_rfl) (by kernel_rfl) (fun _ _ _ h => h) (Or.inl ⟨by rfl, ?_⟩) (by assumption) ?_
              rotate_left
              · intro w hSw; (try dsimp only at hSw); go_simp; try with_reducible rfl
              (try simp only [Act.put, List.setIfInBounds_toArray, List.set_cons_zero, List.set_cons_succ])
              refine wpAnyH_ready (rs := [3]) (by kernel_rfl) (by simp) ?_
              refine AllReadyH.cons rfl (fun K hK => ?_) AllReadyH.nil
              go_simp
              go_at_call 27
              refine (HD.out n hn9 _).mono ?_
              rintro e w3 ⟨rfl, hb3⟩
              have b3 : Below W0.heap.size W0 w3 := b2.trans (hb3.mono b2.size)
              have x3 : w3.cell? ⟨W0.heap.size, 1, none⟩ = some (.string ⟨#[116]⟩) := (hN2.below hb3 hN2.lt).cell 1 _ rfl
              go_wp2_with fail
              refine hK.out _ _ ⟨SK.out _ b3, x3⟩ (fun hHeld => ?_)
              clear hK K
              (try dsimp only [Act.put]); (try simp only [Act.put, List.setIfInBounds_toArray, List.set_cons_zero, List.set_cons_succ])
              refine wpAnyH_take (i := 4) (oi := { dst := some 44, op := Op.binOp BinOp.add 9 (Operand.tmp 40) (Operand.tmp 43) 9, type := 9, pos := "ref.go:86", after := #[{ on := 0, ground := Ground.data }, { on := 3, ground := Ground.data }], guard := none }) (v := ?_) rfl (by kernel_rfl) (by kernel_rfl) (by kernel_rfl) (fun _ _ _ h => h) (Or.inl ⟨by rfl, ?_⟩) (by assumption) ?_
              rotate_left
              · intro w hSw; (try dsimp only at hSw); go_simp; try with_reducible rfl
              (try simp only [Act.put, List.setIfInBounds_toArray, List.set_cons_zero, List.set_cons_succ])
              refine wpAnyH_take (i := 10) (oi := { dst := some 50, op := Op.binOp BinOp.add 9 (Operand.tmp 44) (Operand.tmp 49) 9, type := 9, pos := "ref.go:86", after := #[{ on := 4, ground := Ground.data }, { on := 9, ground := Ground.data }], guard := none }) (v := ?_) rfl (by kernel_rfl) (by kernel_rfl) (by kernel_rfl) (fun _ _ _ h => h) (Or.inl ⟨by rfl, ?_⟩) (by assumption) ?_
              rotate_left
              · intro w hSw; (try dsimp only at hSw); go_simp; try with_reducible rfl
              (try simp only [Act.put, List.setIfInBounds_toArray, List.set_cons_zero, List.set_cons_succ])
              refine wpAnyH_ready (rs := [11]) (by kernel_rfl) (by simp) ?_
              refine AllReadyH.cons rfl (fun K hK => ?_) AllReadyH.nil
              go_wp2_with fail
              refine hK.out _ _ hHeld (fun hHeld => ?_)
              clear hK K
              (try dsimp only [Act.put]); (try simp only [Act.put, List.setIfInBounds_toArray, List.set_cons_zero, List.set_cons_succ])
              refine wpAnyH_done (by kernel_rfl) ?_ _
              go_wp2
              exact ⟨⟨k + 1, U ++ Lib.decDigits n ++ [116], congrArg Value.string (bytes_app (U ++ Lib.decDigits n) [116]), by go_num, by omega, by simp only [List.length_append, List.length_cons, List.length_nil]; omega, Lib.hid (by rw [← hN.out, hw.out, ← List.append_assoc]; rfl), HBX.out.trans (b3.mono HBX.out.size)⟩, by simp [intOf]; omega⟩
          · go_upto_region 10 with fail
            have hX : Blk (wr.alloc (.cells #[.int .i64 (n : Int), .int .i64 2] 46)) wr.heap.size 46 #[.int .i64 (n : Int), .int .i64 2] := Blk.new _ _ _
            have hBX : Below w.heap.size w (wr.alloc (.cells #[.int .i64 (n : Int), .int .i64 2] 46)) := hb.alloc hh _
            generalize wr.alloc (.cells #[.int .i64 (n : Int), .int .i64 2] 46) = W0 at *
            generalize wr.heap.size = X at *
            have HX := Lib.hid hX
            have HBX := Lib.hid hBX
            clear hX hBX hb c0 c1
            have SK : Hid (∀ W, Below W0.heap.size W0 W → W.cell? ⟨X, 0, none⟩ = some (.int .i64 (n : Int)) ∧ W.cell? ⟨X, 1, none⟩ = some (.int .i64 2)) := Lib.hid fun W hB => ⟨(HX.out.below hB HX.out.lt).cell 0 _ rfl, (HX.out.below hB HX.out.lt).cell 1 _ rfl⟩
            have bd : Below W0.heap.size W0 W0.drew := (Below.refl _ W0).drew
            have hDl : ¬ 9223372036854775807 < U.length + (Lib.decDigits n).length := by omega
            have hDl2 : ¬ 9223372036854775807 < U.length + (Lib.decDigits n).length + 1 := by omega
            have hcc : ({ data := U.toArray } : ByteArray) ++ { data := (Lib.decDigits n).toArray } = { data := (U ++ Lib.decDigits n).toArray } := bytes_app _ _
            refine wp_region_held_drew (S := (fun W => W.cell? ⟨X, 0, none⟩ = some (.int .i64 (n : Int)) ∧ W.cell? ⟨X, 1, none⟩ = some (.int .i64 2))) (by kernel_rfl) (SK.out _ bd) (fun hHeld => ?_)
            refine wpAnyH_take (i := 0) (oi := _) (v := ?_) rfl (by kernel_rfl) (by kernel_rfl) (by kernel_rfl) (fun _ _ _ h => h) (Or.inl ⟨by rfl, ?_⟩) (by assumption) ?_
            rotate_left
            · intro w hSw; (try dsimp only at hSw); go_simp; try with_reducible rfl
            (try simp only [Act.put, List.setIfInBounds_toArray, List.set_cons_zero, List.set_cons_succ])
            refine wpAnyH_take (i := 1) (oi := _) (v := ?_) rfl (by kernel_rfl) (by kernel_rfl) (by kernel_rfl) (fun _ _ _ h => h) (Or.inl ⟨by rfl, ?_⟩) (by assumption) ?_
            rotate_left
            · intro w hSw; (try dsimp only at hSw); go_simp; try with_reducible rfl
            (try simp only [Act.put, List.setIfInBounds_toArray, List.set_cons_zero, List.set_cons_succ])
            refine wpAnyH_take (i := 2) (oi := _) (v := ?_) rfl (by kernel_rfl) (by kernel_rfl) (by kernel_rfl) (fun _ _ _ h => h) (Or.inl ⟨by rfl, ?_⟩) (by assumption) ?_
            rotate_left
            · intro w hSw; (try dsimp only at hSw); go_simp; try with_reducible rfl
            (try simp only [Act.put, List.setIfInBounds_toArray, List.set_cons_zero, List.set_cons_succ])
            refine wpAnyH_take (i := 6) (oi := _) (v := ?_) rfl (by kernel_rfl) (by kernel_rfl) (by kernel_rfl) (fun _ _ _ h => h) (Or.inl ⟨by rfl, ?_⟩) (by assumption) ?_
            rotate_left
            · intro w hSw; (try dsimp only at hSw); go_simp; try with_reducible rfl
            (try simp only [Act.put, List.setIfInBounds_toArray, List.set_cons_zero, List.set_cons_succ])
            refine wpAnyH_take (i := 7) (oi := _) (v := ?_) rfl (by kernel_rfl) (by kernel_rfl) (by kernel_rfl) (fun _ _ _ h => h) (Or.inl ⟨by rfl, ?_⟩) (by assumption) ?_
            rotate_left
            · intro w hSw; (try dsimp only at hSw); go_simp; try with_reducible rfl
            (try simp only [Act.put, List.setIfInBounds_toArray, List.set_cons_zero, List.set_cons_succ])
            refine wpAnyH_ready (rs := [3, 5]) (by kernel_rfl) (by simp) ?_
            refine AllReadyH.cons rfl (fun K hK => ?_) ?_
            · go_simp
              go_at_call 27
              refine (HD.out n hn9 _).mono ?_
              rintro e w2 ⟨rfl, hb2⟩
              have b2 : Below W0.heap.size W0 w2 := bd.trans hb2
              go_wp2_with fail
              refine hK.out _ _ (SK.out _ b2) (fun hHeld => ?_)
              clear hK K
              (try dsimp only [Act.put]); (try simp only [Act.put, List.setIfInBounds_toArray, List.set_cons_zero, List.set_cons_succ])
              refine wpAnyH_take (i := 4) (oi := { dst := some 44, op := Op.binOp BinOp.add 9 (Operand.tmp 40) (Operand.tmp 43) 9, type := 9, pos := "ref.go:86", after := #[{ on := 0, ground := Ground.data }, { on := 3, ground := Ground.data }], guard := none }) (v := ?_) rfl (by kernel_rfl) (by kernel_rfl) (by kernel_rfl) (fun _ _ _ h => h) (Or.inl ⟨by rfl, ?_⟩) (by assumption) ?_
              rotate_left
              · intro w hSw; (try dsimp only at hSw); go_simp; try with_reducible rfl
              (try simp only [Act.put, List.setIfInBounds_toArray, List.set_cons_zero, List.set_cons_succ])
              refine wpAnyH_ready (rs := [5]) (by kernel_rfl) (by simp) ?_
              refine AllReadyH.cons rfl (fun K hK => ?_) AllReadyH.nil
              go_simp
              have b3 : Below W0.heap.size W0 (w2.alloc (.cells #[.string ⟨#[]⟩, .string ⟨#[116]⟩, .string ⟨#[115]⟩] 9)) := b2.alloc b2.size _
              have hN3 : Blk (w2.alloc (.cells #[.string ⟨#[]⟩, .string ⟨#[116]⟩, .string ⟨#[115]⟩] 9)) w2.heap.size 9 #[.string ⟨#[]⟩, .string ⟨#[116]⟩, .string ⟨#[115]⟩] := Blk.new _ _ _
              have x3 : (w2.alloc (.cells #[.string ⟨#[]⟩, .string ⟨#[116]⟩, .string ⟨#[115]⟩] 9)).cell? ⟨w2.heap.size, 2, none⟩ = some (.string ⟨#[115]⟩) := hN3.cell 2 _ rfl
              go_wp2_with fail
              refine hK.out _ _ (SK.out _ b3) (fun hHeld => ?_)
              clear hK K
              (try dsimp only [Act.put]); (try simp only [Act.put, List.setIfInBounds_toArray, List.set_cons_zero, List.set_cons_succ])
              refine wpAnyH_more7 (S' := (fun W => (W.cell? ⟨X, 0, none⟩ = some (.int .i64 (n : Int)) ∧ W.cell? ⟨X, 1, none⟩ = some (.int .i64 2)) ∧ W.cell? ⟨w2.heap.size, 2, none⟩ = some (.string ⟨#[115]⟩))) (fun _ h => h.1) _ _ _ _ ?_
              replace hHeld : (fun W => (W.cell? ⟨X, 0, none⟩ = some (.int .i64 (n : Int)) ∧ W.cell? ⟨X, 1, none⟩ = some (.int .i64 2)) ∧ W.cell? ⟨w2.heap.size, 2, none⟩ = some (.string ⟨#[115]⟩)) (w2.alloc (.cells #[.string ⟨#[]⟩, .string ⟨#[116]⟩, .string ⟨#[115]⟩] 9)) := ⟨SK.out _ b3, x3⟩
              refine wpAnyH_take (i := 8) (oi := { dst := some 48, op := Op.indexAddr 56 (Operand.tmp 45) (Operand.tmp 47), type := 0, pos := "ref.go:86", after := #[{ on := 5, ground := Ground.data }, { on := 7, ground := Ground.data }], guard := none }) (v := ?_) rfl (by kernel_rfl) (by kernel_rfl) (by kernel_rfl) (fun _ _ _ h => h) (Or.inl ⟨by rfl, ?_⟩) (by assumption) ?_
              rotate_left
              · intro w hSw; (try dsimp only at hSw); go_simp; try with_reducible rfl
              (try simp only [Act.put, List.setIfInBounds_toArray, List.set_cons_zero, List.set_cons_succ])
              refine wpAnyH_take (i := 9) (oi := { dst := some 49, op := Op.load 9 (Operand.tmp 48), type := 9, pos := "ref.go:86", after := #[{ on := 8, ground := Ground.data }], guard := none }) (v := ?_) rfl (by kernel_rfl) (by kernel_rfl) (by kernel_rfl) (fun _ _ _ h => h) (Or.inl ⟨by rfl, ?_⟩) (by assumption) ?_
              rotate_left
              · intro w hSw; (try dsimp only at hSw); go_simp; try with_reducible rfl
              (try simp only [Act.put, List.setIfInBounds_toArray, List.set_cons_zero, List.set_cons_succ])
              refine wpAnyH_take (i := 10) (oi := { dst := some 50, op := Op.binOp BinOp.add 9 (Operand.tmp 44) (Operand.tmp 49) 9, type := 9, pos := "ref.go:86", after := #[{ on := 4, ground := Ground.data }, { on := 9, ground := Ground.data }], guard := none }) (v := ?_) rfl (by kernel_rfl) (by kernel_rfl) (by kernel_rfl) (fun _ _ _ h => h) (Or.inl ⟨by rfl, ?_⟩) (by assumption) ?_
              rotate_left
              · intro w hSw; (try dsimp only at hSw); go_simp; try with_reducible rfl
              (try simp only [Act.put, List.setIfInBounds_toArray, List.set_cons_zero, List.set_cons_succ])
              refine wpAnyH_ready (rs := [11]) (by kernel_rfl) (by simp) ?_
              refine AllReadyH.cons rfl (fun K hK => ?_) AllReadyH.nil
              go_wp2_with fail
              refine hK.out _ _ hHeld (fun hHeld => ?_)
              clear hK K
              (try dsimp only [Act.put]); (try simp only [Act.put, List.setIfInBounds_toArray, List.set_cons_zero, List.set_cons_succ])
              refine wpAnyH_done (by kernel_rfl) ?_ _
              go_wp2
              exact ⟨⟨k + 1, U ++ Lib.decDigits n ++ [115], congrArg Value.string (bytes_app (U ++ Lib.decDigits n) [115]), by go_num, by omega, by simp only [List.length_append, List.length_cons, List.length_nil]; omega, Lib.hid (by rw [← hN.out, hw.out, ← List.append_assoc]; rfl), HBX.out.trans (b3.mono HBX.out.size)⟩, by simp [intOf]; omega⟩
            · refine AllReadyH.cons rfl (fun K hK => ?_) AllReadyH.nil
              go_simp
              have b2 : Below W0.heap.size W0 (W0.drew.alloc (.cells #[.string ⟨#[]⟩, .string ⟨#[116]⟩, .string ⟨#[115]⟩] 9)) := bd.alloc (Nat.le_refl _) _
              have hN2 : Blk (W0.drew.alloc (.cells #[.string ⟨#[]⟩, .string ⟨#[116]⟩, .string ⟨#[115]⟩] 9)) W0.drew.heap.size 9 #[.string ⟨#[]⟩, .string ⟨#[116]⟩, .string ⟨#[115]⟩] := Blk.new _ _ _
              have x2 : (W0.drew.alloc (.cells #[.string ⟨#[]⟩, .string ⟨#[116]⟩, .string ⟨#[115]⟩] 9)).cell? ⟨W0.heap.size, 2, none⟩ = some (.string ⟨#[115]⟩) := hN2.cell 2 _ rfl
              go_wp2_with fail
              refine hK.out _ _ (SK.out _ b2) (fun hHeld => ?_)
              clear hK K
              (try dsimp only [Act.put]); (try simp only [Act.put, List.setIfInBounds_toArray, List.set_cons_zero, List.set_cons_succ])
              refine wpAnyH_more7 (S' := (fun W => (W.cell? ⟨X, 0, none⟩ = some (.int .i64 (n : Int)) ∧ W.cell? ⟨X, 1, none⟩ = some (.int .i64 2)) ∧ W.cell? ⟨W0.heap.size, 2, none⟩ = some (.string ⟨#[115]⟩))) (fun _ h => h.1) _ _ _ _ ?_
              replace hHeld : (fun W => (W.cell? ⟨X, 0, none⟩ = some (.int .i64 (n : Int)) ∧ W.cell? ⟨X, 1, none⟩ = some (.int .i64 2)) ∧ W.cell? ⟨W0.heap.size, 2, none⟩ = some (.string ⟨#[115]⟩)) (W0.drew.alloc (.cells #[.string ⟨#[]⟩, .string ⟨#[116]⟩, .string ⟨#[115]⟩] 9)) := ⟨SK.out _ b2, x2⟩
              refine wpAnyH_take (i := 8) (oi := { dst := some 48, op := Op.indexAddr 56 (Operand.tmp 45) (Operand.tmp 47), type := 0, pos := "ref.go:86", after := #[{ on := 5, ground := Ground.data }, { on := 7, ground := Ground.data }], guard := none }) (v := ?_) rfl (by kernel_rfl) (by kernel_rfl) (by kernel_rfl) (fun _ _ _ h => h) (Or.inl ⟨by rfl, ?_⟩) (by assumption) ?_
              rotate_left
              · intro w hSw; (try dsimp only at hSw); go_simp; try with_reducible rfl
              (try simp only [Act.put, List.setIfInBounds_toArray, List.set_cons_zero, List.set_cons_succ])
              refine wpAnyH_take (i := 9) (oi := { dst := some 49, op := Op.load 9 (Operand.tmp 48), type := 9, pos := "ref.go:86", after := #[{ on := 8, ground := Ground.data }], guard := none }) (v := ?_) rfl (by kernel_rfl) (by kernel_rfl) (by kernel_rfl) (fun _ _ _ h => h) (Or.inl ⟨by rfl, ?_⟩) (by assumption) ?_
              rotate_left
              · intro w hSw; (try dsimp only at hSw); go_simp; try with_reducible rfl
              (try simp only [Act.put, List.setIfInBounds_toArray, List.set_cons_zero, List.set_cons_succ])
              refine wpAnyH_ready (rs := [3]) (by kernel_rfl) (by simp) ?_
              refine AllReadyH.cons rfl (fun K hK => ?_) AllReadyH.nil
              go_simp
              go_at_call 27
              refine (HD.out n hn9 _).mono ?_
              rintro e w3 ⟨rfl, hb3⟩
              have b3 : Below W0.heap.size W0 w3 := b2.trans (hb3.mono b2.size)
              have x3 : w3.cell? ⟨W0.heap.size, 2, none⟩ = some (.string ⟨#[115]⟩) := (hN2.below hb3 hN2.lt).cell 2 _ rfl
              go_wp2_with fail
              refine hK.out _ _ ⟨SK.out _ b3, x3⟩ (fun hHeld => ?_)
              clear hK K
              (try dsimp only [Act.put]); (try simp only [Act.put, List.setIfInBounds_toArray, List.set_cons_zero, List.set_cons_succ])
              refine wpAnyH_take (i := 4) (oi := { dst := some 44, op := Op.binOp BinOp.add 9 (Operand.tmp 40) (Operand.tmp 43) 9, type := 9, pos := "ref.go:86", after := #[{ on := 0, ground := Ground.data }, { on := 3, ground := Ground.data }], guard := none }) (v := ?_) rfl (by kernel_rfl) (by kernel_rfl) (by kernel_rfl) (fun _ _ _ h => h) (Or.inl ⟨by rfl, ?_⟩) (by assumption) ?_
              rotate_left
              · intro w hSw; (try dsimp only at hSw); go_simp; try with_reducible rfl
              (try simp only [Act.put, List.setIfInBounds_toArray, List.set_cons_zero, List.set_cons_succ])
              refine wpAnyH_take (i := 10) (oi := { dst := some 50, op := Op.binOp BinOp.add 9 (Operand.tmp 44) (Operand.tmp 49) 9, type := 9, pos := "ref.go:86", after := #[{ on := 4, ground := Ground.data }, { on := 9, ground := Ground.data }], guard := none }) (v := ?_) rfl (by kernel_rfl) (by kernel_rfl) (by kernel_rfl) (fun _ _ _ h => h) (Or.inl ⟨by rfl, ?_⟩) (by assumption) ?_
              rotate_left
              · intro w hSw; (try dsimp only at hSw); go_simp; try with_reducible rfl
              (try simp only [Act.put, List.setIfInBounds_toArray, List.set_cons_zero, List.set_cons_succ])
              refine wpAnyH_ready (rs := [11]) (by kernel_rfl) (by simp) ?_
              refine AllReadyH.cons rfl (fun K hK => ?_) AllReadyH.nil
              go_wp2_with fail
              refine hK.out _ _ hHeld (fun hHeld => ?_)
              clear hK K
              (try dsimp only [Act.put]); (try simp only [Act.put, List.setIfInBounds_toArray, List.set_cons_zero, List.set_cons_succ])
              refine wpAnyH_done (by kernel_rfl) ?_ _
              go_wp2
              exact ⟨⟨k + 1, U ++ Lib.decDigits n ++ [115], congrArg Value.string (bytes_app (U ++ Lib.decDigits n) [115]), by go_num, by omega, by simp only [List.length_append, List.length_cons, List.length_nil]; omega, Lib.hid (by rw [← hN.out, hw.out, ← List.append_assoc]; rfl), HBX.out.trans (b3.mono HBX.out.size)⟩, by simp [intOf]; omega⟩
        · have hw : Hid (wordB (pu, pq) = [45]) := Lib.hid (by unfold wordB; rw [if_neg hok])
          have hql3 : ¬ 9223372036854775807 < U.length + 1 := by omega
          have hcases : pu < 0 ∨ (¬ pu < 0 ∧ 99999 < pu) ∨ (¬ pu < 0 ∧ ¬ 99999 < pu ∧ pq < 0) ∨ (¬ pu < 0 ∧ ¬ 99999 < pu ∧ ¬ pq < 0 ∧ 2 < pq) := by
            simp [okPk] at hok
            omega
          clear hok
          rcases hcases with r1 | ⟨r1, r2⟩ | ⟨r1, r2, r3⟩ | ⟨r1, r2, r3, r4⟩
          all_goals
            go_wp2
            exact ⟨⟨k + 1, U ++ [45], congrArg Value.string (bytes_app U [45]), by go_num, by omega, by simp only [List.length_append, List.length_cons, List.length_nil]; omega, Lib.hid (by rw [← hN.out, hw.out]), hb.alloc hh _⟩, by simp [intOf]; omega⟩
    · have hke : k = l.length := by omega
      subst hke
      go_wp2
      go_ret
      refine ⟨?_, hb⟩
      rw [hT.out, List.take_length]
      rfl
end Go.Proofs.YtkmadabpfialbaaGreatDoor
