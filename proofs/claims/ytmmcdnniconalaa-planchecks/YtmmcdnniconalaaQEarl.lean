/- The walk of earliest. -/
import Derived.Test.YtmmcdnniconalaaQEarlA
namespace Go.Proofs.Ytmmcdnniconalaa
open Go.RowKit Go.Shelf
set_option linter.unusedVariables false
attribute [local go_sem] Oper.semAt_some
set_option maxRecDepth 20000 in
set_option maxHeartbeats 8000000 in
theorem earl_any (w : World) (nn to need node t : Int) (ad la : Option Addr) (m k lk : Nat) (X : List Ct) (L : List Int) (hX : OkX nn X) (hm : X.length = m) (hl : L.length = m) (t1 : 1 ≤ to) (t2 : to ≤ nn) (n1 : 1 ≤ node) (n2 : node ≤ nn) (ht : t = nvr ∨ (0 ≤ t ∧ t ≤ 2097152))
    (hXA : CtAt (fun _ => False) w ad X) (hLA : RowI (fun _ => False) w la L) :
    Calls Try.prog 26 #[sv nn ad m k la m lk to need, .int .i64 node, .int .i64 t] w fun e w' => e = .returned (.int .i64 (ern X L to.toNat need node.toNat t)) ∧ Hid (Below w.heap.size w w') := by
  have h6 := hX.n6
  have h24 := hX.len
  unfold sv sc
  refine (callsIn_wide (n := 9)).1 ?_
  refine callsIn_of_wp_marks Try.func26 rfl trivial ?_
  simp only [Try.ntmps26, List.size_toArray, List.length_cons, List.length_nil, Nat.reduceAdd, Nat.reduceSub, Array.replicate_succ, Array.replicate_zero, List.push_toArray, List.append_toArray, List.nil_append, List.cons_append]
  gi_wp2
  refine scope_in ?_
  gi_wp2
  obtain ⟨W1, hW1⟩ : ∃ W1, W1 = (w.alloc (.cells #[.int .i64 nn, .slice ad m k, .slice la m lk, .int .i64 to, .int .i64 need] 48)).alloc (.cells #[.int .i64 0, .int .i64 0, .int .i64 0, .int .i64 0, .int .i64 0, .int .i64 0, .int .i64 0] 51) := ⟨_, rfl⟩
  rw [← hW1]
  gi_loopw [15] (fun i wr => ∃ (j : Nat) (V : List Int), j ≤ 7 ∧ i = .int .i64 j ∧ Hid (V.length = 7 ∧ (∀ v, v < j → gt V v = nvr) ∧ wr.heap[w.heap.size]? = some (.cells (sc nn ad m k la m lk to need) 48 (0, 0)) ∧ wr.heap[w.heap.size + 1]? = some (.cells (wc V) 51 (0, 0)) ∧ Below w.heap.size w wr ∧ wr.heap.size = w.heap.size + 2)) (fun i _ => 7 - (intOf i).toNat)
  case atStart =>
    refine ⟨0, List.replicate 7 0, by omega, rfl, by simp, fun v hv => by omega, ?_, ?_, ?_, ?_⟩
    · rw [hW1]; exact old_block ((Below.refl _ _).alloc (Nat.le_refl _) _) (heap_alloc_new w _)
    · rw [hW1]; have := heap_alloc_new (w.alloc (.cells #[.int .i64 nn, .slice ad m k, .slice la m lk, .int .i64 to, .int .i64 need] 48)) (.cells #[.int .i64 0, .int .i64 0, .int .i64 0, .int .i64 0, .int .i64 0, .int .i64 0, .int .i64 0] 51); rw [World.size_alloc] at this; exact this
    · rw [hW1]; exact ((Below.refl _ w).alloc (Nat.le_refl _) _).alloc (by simp) _
    · rw [hW1]; simp
  case round =>
    obtain ⟨j, V, hj, rfl, HV⟩ := hrel
    by_cases hlt : j < 7
    · have c1 : wr.cell? ⟨w.heap.size + 1, j, none⟩ = some (.int .i64 (gt V j)) := by rw [cell_of HV.out.2.2.2.1, wc_at hlt]
      have f1 : wr.frozen? ⟨w.heap.size + 1, j, none⟩ = false := frozen_of HV.out.2.2.2.1 j
      clear hW1
      gi_wp2
      go_roundw
      case rel =>
        obtain ⟨q1, q2, q3, q4, q5, q6⟩ := HV.out
        refine ⟨j + 1, V.set j nvr, by omega, by go_num, by simp [q1], fun v hv => ?_, ?_, ?_, ?_, ?_⟩
        · rw [gt_set (by omega)]
          split
          · rfl
          · exact q2 v (by omega)
        · rw [Below.heap_setCell _ _ _ _ (by show _ ≠ w.heap.size + 1; omega)]; exact q3
        · rw [set_heap q4]; exact congrArg (fun C => some (Obj.cells C _ _)) (wc_set hlt q1 nvr)
        · exact q5.setCell (p := ⟨w.heap.size + 1, j, none⟩) (by show _ ≤ w.heap.size + 1; omega) _
        · rw [← q6]; simp [World.setCell]
      case measure => simp [intOf]; omega
    · obtain rfl : j = 7 := by omega
      have hnd : node.toNat < 7 := by omega
      have c1 : wr.cell? ⟨w.heap.size + 1, node.toNat, none⟩ = some (.int .i64 (gt V node.toNat)) := by rw [cell_of HV.out.2.2.2.1, wc_at hnd]
      have f1 : wr.frozen? ⟨w.heap.size + 1, node.toNat, none⟩ = false := frozen_of HV.out.2.2.2.1 _
      clear hW1
      gi_wp2
      -- the rounds
      have hsz : wr.heap.size = w.heap.size + 1 + 1 := HV.out.2.2.2.2.2
      have hE0 : EI w (sc nn ad m k la m lk to need) ((List.replicate 7 nvr).set node.toNat t) (List.replicate 7 false) [] ((wr.setCell ⟨w.heap.size + 1, node.toNat, none⟩ (.int .i64 t)).alloc (.cells #[.bool false, .bool false, .bool false, .bool false, .bool false, .bool false, .bool false] 66)) := earl_begin HV.out hnd
      have hI0 : Inv X L need node.toNat t 0 ((List.replicate 7 nvr).set node.toNat t) (List.replicate 7 false) := Inv.start hnd (by omega) ht
      rw [hsz]
      refine wpIn_label ?_
      gi_wp2
      clear HV c1 f1 hj hlt
      generalize hWS : (wr.setCell ⟨w.heap.size + 1, node.toNat, none⟩ (.int .i64 t)).alloc (.cells #[.bool false, .bool false, .bool false, .bool false, .bool false, .bool false, .bool false] 66) = WS at hE0 ⊢
      clear hWS hsz
      refine wpIn_loop (fun a W => ∃ u8 u10 u11 u12 u13 u14 u15 u16 u17 u18 u19 u20 u21 u22 u23 u24 u25 u26 u27 u28 u29 u30 u31 u32 u33 u34 u35 u36 u37 u38 u39 u40 u41 u42 u43 u44 u45 u46 u47 u48 u49 u50 u51 u52 u53 u54 u55 u56 u57 u58 u59 u60 u61 u62 u63 u64 u65 u66 u67 u68 u69 u70 u71 : Value, ∃ (Ds : List Nat) (V : List Int) (S : List Bool), (EI w (sc nn ad m k la m lk to need) V S Ds W ∧ Inv X L need node.toNat t Ds.length V S) ∧ a = { tmps := #[.agg #[.int .i64 nn, .slice ad m k, .slice la m lk, .int .i64 to, .int .i64 need], .int .i64 node, .int .i64 t, .pointer (some ⟨w.heap.size, 0, none⟩), undef, undef, .int .i64 0, .pointer (some ⟨w.heap.size + 1, 0, none⟩), u8, .pointer (some ⟨w.heap.size + 1 + 1, 0, none⟩), u10, u11, u12, u13, u14, u15, u16, u17, u18, u19, u20, u21, u22, u23, u24, u25, u26, u27, u28, u29, u30, u31, u32, u33, u34, u35, u36, u37, u38, u39, u40, u41, u42, u43, u44, u45, u46, u47, u48, u49, u50, u51, u52, u53, u54, u55, u56, u57, u58, u59, u60, u61, u62, u63, u64, u65, u66, u67, u68, u69, u70, u71], defers := Ds.map mrk }) (fun a _ => 7 - a.defers.length) ?start ?round
      case start =>
        (repeat apply Exists.intro)
        exact ⟨⟨hE0, hI0⟩, rfl⟩
      case round =>
        clear hE0 hI0
        intro _ wq hinv
        obtain ⟨u8, u10, u11, u12, u13, u14, u15, u16, u17, u18, u19, u20, u21, u22, u23, u24, u25, u26, u27, u28, u29, u30, u31, u32, u33, u34, u35, u36, u37, u38, u39, u40, u41, u42, u43, u44, u45, u46, u47, u48, u49, u50, u51, u52, u53, u54, u55, u56, u57, u58, u59, u60, u61, u62, u63, u64, u65, u66, u67, u68, u69, u70, u71, Ds, V, S, ⟨hE, hI⟩, rfl⟩ := hinv
        dsimp only
        have w0 := hE.wcell (v := 0) (by omega)
        have w1 := hE.wcell (v := 1) (by omega)
        have w2 := hE.wcell (v := 2) (by omega)
        have w3 := hE.wcell (v := 3) (by omega)
        have w4 := hE.wcell (v := 4) (by omega)
        have w5 := hE.wcell (v := 5) (by omega)
        have w6 := hE.wcell (v := 6) (by omega)
        have hlt2 : w.heap.size + 1 + 1 < wq.heap.size := (Array.getElem?_eq_some_iff.1 hE.tb).1
        have hltw : w.heap.size + 1 < wq.heap.size := by omega
        have HE : Hid (EI w (sc nn ad m k la m lk to need) V S Ds wq ∧ Inv X L need node.toNat t Ds.length V S) := ⟨hE, hI⟩
        clear hE hI
        gi_wp2
        gi_loopw [25] (fun i wp => ∃ (j near : Nat), j ≤ 7 ∧ i = .int .i64 j ∧ Hid (EI w (sc nn ad m k la m lk to need) V S Ds wp ∧ wp.heap[wq.heap.size]? = some (.cells #[.int .i64 (near : Nat)] 3 (0, 0)) ∧ Near V S j near ∧ wp.heap.size = wq.heap.size + 1)) (fun i _ => 7 - (intOf i).toNat)
        case atStart => exact ⟨0, 0, by omega, rfl, HE.out.1.later ((Below.refl _ wq).alloc (Nat.le_refl _) _), heap_alloc_new wq _, Near.zero, by simp⟩
        case round =>
          obtain ⟨j, near, hj, rfl, HN⟩ := hrel
          have hn7 := HN.out.2.2.1.lt
          have cN := cell_of HN.out.2.1 0
          have fN := frozen_of HN.out.2.1 0
          simp only [List.getElem?_toArray, List.getElem?_cons_zero] at cN
          have cW := HN.out.1.wcell hn7
          clear w0 w1 w2 w3 w4 w5 w6
          by_cases hlt : j < 7
          · have cT := HN.out.1.tcell hlt
            have hix := fun w : World => index7 (V := V) hlt w
            unfold wc at hix
            by_cases h1 : gb S j = true
            · gi_wp2
              go_roundw
              case rel => exact ⟨j + 1, near, by omega, by go_num, HN.out.1, HN.out.2.1, HN.out.2.2.1.no (by rw [h1]; simp), HN.out.2.2.2⟩
              case measure => simp [intOf]; omega
            · have h1' : gb S j = false := by simpa using h1
              clear h1
              by_cases h2 : gt V j < gt V near
              · gi_wp2
                go_roundw
                case rel => exact ⟨j + 1, j, by omega, by go_num, HN.out.1.setb (by omega) HN.out.2.1 _, by rw [set_heap HN.out.2.1]; rfl, HN.out.2.2.1.yes HE.out.2.bnd (by omega) h1' h2, by rw [← HN.out.2.2.2]; simp [World.setCell]⟩
                case measure => simp [intOf]; omega
              · gi_wp2
                go_roundw
                case rel => exact ⟨j + 1, near, by omega, by go_num, HN.out.1, HN.out.2.1, HN.out.2.2.1.no (fun h => h2 h.2), HN.out.2.2.2⟩
                case measure => simp [intOf]; omega
          · obtain rfl : j = 7 := by omega
            obtain ⟨s0, s1, s2, s3, s4⟩ := sc_cells HN.out.1.sb
            have hto7 : to.toNat < 7 := by omega
            have cto := HN.out.1.wcell hto7
            have hNear : Near V S 7 near := HN.out.2.2.1
            by_cases hz : near = 0
            · subst hz
              have HF : Hid (gt V to.toNat = ern X L to.toNat need node.toNat t) := HE.out.2.ends hX hnd hto7 ht hNear (.inl rfl)
              clear hNear
              gi_wp2
              refine leaves_marks Ds wr HE.out.1.nd HN.out.1.mks (fun W' hW' => ⟨_, results_tmp (t := 6) rfl _ _ _, ret_int HF.out, ?_⟩)
              exact marks_below HN.out.1 hW'
            · have hz' : ((near : Int) == 0) = false := by simpa using hz
              by_cases hnt : (near : Int) = to
              · have HF : Hid (gt V to.toNat = ern X L to.toNat need node.toNat t) := HE.out.2.ends hX hnd hto7 ht hNear (.inr (by omega))
                have hnt2 : ((near : Int) == to) = true := by simpa using hnt
                clear hNear hnt
                gi_wp2
                refine leaves_marks Ds wr HE.out.1.nd HN.out.1.mks (fun W' hW' => ⟨_, results_tmp (t := 6) rfl _ _ _, ret_int HF.out, ?_⟩)
                exact marks_below HN.out.1 hW'
              · have hnt' : ((near : Int) == to) = false := by simpa using hnt
                have cT := HN.out.1.tcell hn7
                have fT := frozen_of HN.out.1.tb near
                have HU : Hid (∀ W0, Calls Try.prog 25 #[sv nn ad m k la m lk to need, .int .i64 (near : Nat)] W0 fun e w' => e = .returned (.func (.func 30) #[] #[.pointer (some ⟨W0.heap.size, 0, none⟩), .pointer (some ⟨W0.heap.size + 1, 0, none⟩)]) ∧ w' = (W0.alloc (.cells (sc nn ad m k la m lk to need) 48)).alloc (.cells #[.int .i64 (near : Nat)] 3)) := fun W0 => us_fn _ _ _ _ _ _ _ _ _ _ _
                unfold sv sc at HU
                have HNR : Hid (Near V S 7 near ∧ near ≠ 0 ∧ (near : Int) ≠ to) := ⟨hNear, hz, hnt⟩
                clear hNear hz hnt
                gi_wp2_with (refine ⟨trivial, ?_⟩; gi_at_call 25; refine (callsIn_wide.2 (HU.out _)).mono ?_; rintro e w1 ⟨rfl, rfl⟩)
                obtain ⟨W3, hW3, z3, zb3, g0, g1⟩ := alloc2w (wr.setCell ⟨w.heap.size + 1 + 1, near, none⟩ (.bool true)) (.cells (sc nn ad m k la m lk to need) 48) (.cells #[.int .i64 (near : Nat)] 3)
                unfold sc at hW3
                rw [← hW3]
                have hszw : (wr.setCell ⟨w.heap.size + 1 + 1, near, none⟩ (.bool true)).heap.size = wr.heap.size := by simp [World.setCell]
                rw [hszw] at z3 g0 g1
                have hE3 : EI w (sc nn ad m k la m lk to need) V (S.set near true) Ds W3 := (HN.out.1.sett hn7 HE.out.2.sl).later zb3
                have hnb3 : W3.heap[wq.heap.size]? = some (.cells #[.int .i64 (near : Nat)] 3 (0, 0)) := old_block zb3 (by rw [Below.heap_setCell _ _ _ _ (by show _ ≠ w.heap.size + 1 + 1; omega)]; exact HN.out.2.1)
                have hrz := HN.out.2.2.2
                have hDs : ∀ D ∈ Ds, D < W3.heap.size := fun D hD => by have := (Array.getElem?_eq_some_iff.1 (HE.out.1.mks D hD)).1; omega
                have hseq := us_hands (9 - 1) wr.heap.size (wr.heap.size + 1) m k lk (fun k => k = w.heap.size + 1) nn (near : Nat) to need ad la X L (by decide) hm hl (by omega) W3 (fun k hk => by omega) g0 g1 (by omega) (by omega) ((hXA.sub (M := fun k => k = w.heap.size + 1) (fun k hk e => by omega)).later hE3.bel) ((hLA.sub (M := fun k => k = w.heap.size + 1) (fun k hk e => by omega)).later hE3.bel)
                have hi0 : GI w wq W3 X L need (sc nn ad m k la m lk to need) V (S.set near true) Ds near [] W3 := ⟨⟨V, Stp.start HE.out.2.wl HE.out.2.bnd, hE3⟩, hnb3, Nat.le_refl _⟩
                clear hW3 cN fN cW s0 s1 s2 s3 s4 cto cT fT HU g0 g1 hE3 hnb3 zb3 hszw hz' hnt'
                refine range_hands (by decide) (gf := 30) rfl (enters_of Try.func30 (by kernel_rfl) rfl) hseq KpT.trans (fun W l o o' ho hc => KpT.put ho hc) (Below.refl _ _) (fun _ => rfl)
                  (I := GI w wq W3 X L need (sc nn ad m k la m lk to need) V (S.set near true) Ds near) (Ix := fun _ _ _ => False)
                  (GI.own (by omega) hDs) (fun c s A B row h hg hr => h) (fun s A B row h hg hr => h) hi0
                  (fun x a' W' => ∃ f, W3.heap.size ≤ f ∧ W'.heap[f]? = some (.cells (cc x.2) 43 (0, 0)) ∧ a' = { tmps := #[.agg #[.int .i64 nn, .slice ad m k, .slice la m lk, .int .i64 to, .int .i64 need], .int .i64 node, .int .i64 t, .pointer (some ⟨w.heap.size, 0, none⟩), undef, undef, .int .i64 0, .pointer (some ⟨w.heap.size + 1, 0, none⟩), u8, .pointer (some ⟨w.heap.size + 1 + 1, 0, none⟩), .pointer (some ⟨wq.heap.size, 0, none⟩), u11, u12, u13, .pointer (some ⟨f, 0, none⟩), u15, u16, u17, u18, u19, u20, u21, u22, u23, .agg #[.int .i64 (gt V 0), .int .i64 (gt V 1), .int .i64 (gt V 2), .int .i64 (gt V 3), .int .i64 (gt V 4), .int .i64 (gt V 5), .int .i64 (gt V 6)], .int .i64 7, .bool false, u27, u28, u29, u30, u31, u32, u33, u34, u35, u36, u37, u38, u39, u40, u41, .int .i64 (near : Nat), .bool false, .bool false, .pointer (some ⟨w.heap.size, 3, none⟩), .int .i64 to, .bool false, .int .i64 (near : Nat), .pointer (some ⟨w.heap.size + 1 + 1, near, none⟩), .agg #[.int .i64 nn, .slice ad m k, .slice la m lk, .int .i64 to, .int .i64 need], .int .i64 (near : Nat), .func (.func 30) #[] #[.pointer (some ⟨wr.heap.size, 0, none⟩), .pointer (some ⟨wr.heap.size + 1, 0, none⟩)], .int .i64 (x.1 : Nat), cv x.2, u55, u56, u57, u58, u59, u60, u61, u62, u63, u64, u65, u66, u67, u68, u69, u70, u71], defers := [] })
                  (fun x a' s A B row h hg hr => by obtain ⟨f, q1, q2, q3⟩ := h; exact ⟨f, q1, kept_cells q2 hg hr, q3⟩) ?assign ?body ?done ?stop
                case assign =>
                  intro l' pre x W' K hi ht hK
                  have hb : Below W'.heap.size W' (W'.alloc (.cells (cc x.2) 43)) := (Below.refl _ W').alloc (Nat.le_refl _) _
                  have HK : Hid (K _ (W'.alloc (.cells (cc x.2) 43))) := hK _ _ ⟨hb.size, fun k o _ hk _ => old_block hb hk⟩ (KpT.of_below hb) (hi.alloc _) ht ⟨_, hi.ge, heap_alloc_new W' _, rfl⟩
                  unfold cc cv at HK
                  dsimp only [encC, cv]
                  clear hK hi ht hseq hi0 hrz z3
                  gi_wp2
                  exact HK.out
                case body =>
                  rintro l' pre x a' W' hi ht ⟨f, hf, hfb, rfl⟩ hlen
                  obtain ⟨hx1, hx2, hx3⟩ := ysK_mem (ht.subset (show x ∈ pre ++ [x] by simp))
                  simp only [usP, Bool.and_eq_true, decide_eq_true_eq] at hx3
                  obtain ⟨v, hv⟩ : ∃ v, L[x.1]? = some v := ⟨_, List.getElem?_eq_getElem (by omega)⟩
                  have hgd : L.getD x.1 0 = v := by rw [List.getD_eq_getElem?_getD, hv]; rfl
                  rw [hgd] at hx3
                  obtain ⟨V', q1, q2⟩ := hi.ex
                  have hok := hX.each _ _ hx2
                  have hfi := hok.fi hX.n6
                  have b1 : 0 ≤ x.2.to := by have := hok.t1; omega
                  have b2 : x.2.to < 7 := by have := hok.t2; omega
                  have bn : (near : Int) < 7 := by omega
                  obtain ⟨f0, f1, f2, f3, f4, f5⟩ := box6 hfb
                  have cN := cell_of hi.nb 0
                  simp only [List.getElem?_toArray, List.getElem?_cons_zero] at cN
                  have cW1 := q2.wcell hfi.2.1
                  have cW2 := q2.wcell hn7
                  have hge0 : 0 ≤ gt V' near := by rcases q1.bnd near hn7 with h | h; rw [h]; decide; exact h.1
                  have HA : Hid (∀ W0, Calls Try.prog 27 #[cv x.2, .int .i64 (gt V' near)] W0 fun e w' => e = .returned (.int .i64 (arr x.2 (gt V' near))) ∧ Below W0.heap.size W0 w') := fun W0 => arrival_any x.2 _ W0 hok.s0 hok.e2 hok.d0 hok.d2 hge0 hok.se
                  have HG : Hid (∀ w1, Below W'.heap.size W' w1 → KeepsFrom W3.heap.size W' (w1.setCell ⟨w.heap.size + 1, x.2.to.toNat, none⟩ (.int .i64 (min (gt V' x.2.to.toNat) (arr x.2 (gt V' near))))) ∧ KpT (fun k => k = w.heap.size + 1) W' (w1.setCell ⟨w.heap.size + 1, x.2.to.toNat, none⟩ (.int .i64 (min (gt V' x.2.to.toNat) (arr x.2 (gt V' near))))) ∧
                      GI w wq W3 X L need (sc nn ad m k la m lk to need) V (S.set near true) Ds near (pre ++ [x]) (w1.setCell ⟨w.heap.size + 1, x.2.to.toNat, none⟩ (.int .i64 (min (gt V' x.2.to.toNat) (arr x.2 (gt V' near)))))) := fun w1 hb => hi.next hX q1 q2 (by omega) hx2 hv hx3.2 (by omega) hb W3.heap.size
                  have HQ : Hid (EI w (sc nn ad m k la m lk to need) V' (S.set near true) Ds W') := q2
                  unfold cv at HA ⊢
                  clear hv hgd hx2 hx3 q1 q2 hok hfi hfb hseq hi0 ht hge0 HNR
                  have HS0 : Hid (W'.cell? ⟨wq.heap.size, 0, none⟩ = some (.int .i64 (near : Nat)) ∧ W'.cell? ⟨f, 0, none⟩ = some (.int .i64 x.2.frm) ∧ W'.cell? ⟨f, 1, none⟩ = some (.int .i64 x.2.to) ∧ W'.cell? ⟨f, 2, none⟩ = some (.int .i64 x.2.st) ∧ W'.cell? ⟨f, 3, none⟩ = some (.int .i64 x.2.en) ∧ W'.cell? ⟨f, 4, none⟩ = some (.int .i64 x.2.rt) ∧ W'.cell? ⟨f, 5, none⟩ = some (.int .i64 x.2.dl)) := ⟨cN, f0, f1, f2, f3, f4, f5⟩
                  have hfw : f ≠ w.heap.size + 1 := by omega
                  clear hrz z3
                  gi_wp2
                  refine region_round (fun W' => W'.cell? ⟨wq.heap.size, 0, none⟩ = some (.int .i64 (near : Nat)) ∧ W'.cell? ⟨f, 0, none⟩ = some (.int .i64 x.2.frm) ∧ W'.cell? ⟨f, 1, none⟩ = some (.int .i64 x.2.to) ∧ W'.cell? ⟨f, 2, none⟩ = some (.int .i64 x.2.st) ∧ W'.cell? ⟨f, 3, none⟩ = some (.int .i64 x.2.en) ∧ W'.cell? ⟨f, 4, none⟩ = some (.int .i64 x.2.rt) ∧ W'.cell? ⟨f, 5, none⟩ = some (.int .i64 x.2.dl)) (by kernel_rfl) (by rfl) (by rintro ⟨_, _, h⟩; exact h) HS0.out (fun hHeld => ?_)
                  refine takeH 0 (.pointer (some ⟨f, 1, none⟩)) rfl (by kernel_rfl) (by kernel_rfl) (by kernel_rfl) (fun _ _ _ h => h) (Or.inl ⟨by rfl, ?_⟩) (by assumption) ?_
                  · (intro w hSw; obtain ⟨hS0, hS1, hS2, hS3, hS4, hS5, hS6⟩ := hSw; go_simp)
                  try simp only [Act.put, List.setIfInBounds_toArray, List.set_cons_zero, List.set_cons_succ]
                  refine takeH 1 (.int .i64 x.2.to) rfl (by kernel_rfl) (by kernel_rfl) (by kernel_rfl) (fun _ _ _ h => h) (Or.inl ⟨by rfl, ?_⟩) (by assumption) ?_
                  · (intro w hSw; obtain ⟨hS0, hS1, hS2, hS3, hS4, hS5, hS6⟩ := hSw; go_simp)
                  try simp only [Act.put, List.setIfInBounds_toArray, List.set_cons_zero, List.set_cons_succ]
                  refine takeH 2 (.pointer (some ⟨f, 1, none⟩)) rfl (by kernel_rfl) (by kernel_rfl) (by kernel_rfl) (fun _ _ _ h => h) (Or.inl ⟨by rfl, ?_⟩) (by assumption) ?_
                  · (intro w hSw; obtain ⟨hS0, hS1, hS2, hS3, hS4, hS5, hS6⟩ := hSw; go_simp)
                  try simp only [Act.put, List.setIfInBounds_toArray, List.set_cons_zero, List.set_cons_succ]
                  refine takeH 3 (.int .i64 x.2.to) rfl (by kernel_rfl) (by kernel_rfl) (by kernel_rfl) (fun _ _ _ h => h) (Or.inl ⟨by rfl, ?_⟩) (by assumption) ?_
                  · (intro w hSw; obtain ⟨hS0, hS1, hS2, hS3, hS4, hS5, hS6⟩ := hSw; go_simp)
                  try simp only [Act.put, List.setIfInBounds_toArray, List.set_cons_zero, List.set_cons_succ]
                  refine takeH 4 (.pointer (some ⟨w.heap.size + 1, x.2.to.toNat, none⟩)) rfl (by kernel_rfl) (by kernel_rfl) (by kernel_rfl) (fun _ _ _ h => h) (Or.inl ⟨by rfl, ?_⟩) (by assumption) ?_
                  · (intro w hSw; obtain ⟨hS0, hS1, hS2, hS3, hS4, hS5, hS6⟩ := hSw; go_simp)
                  try simp only [Act.put, List.setIfInBounds_toArray, List.set_cons_zero, List.set_cons_succ]
                  refine takeH 6 (.agg #[.int .i64 x.2.frm, .int .i64 x.2.to, .int .i64 x.2.st, .int .i64 x.2.en, .int .i64 x.2.rt, .int .i64 x.2.dl]) rfl (by kernel_rfl) (by kernel_rfl) (by kernel_rfl) (fun _ _ _ h => h) (Or.inl ⟨by rfl, ?_⟩) (by assumption) ?_
                  · (intro w hSw; obtain ⟨hS0, hS1, hS2, hS3, hS4, hS5, hS6⟩ := hSw; go_simp)
                  try simp only [Act.put, List.setIfInBounds_toArray, List.set_cons_zero, List.set_cons_succ]
                  refine takeH 7 (.int .i64 (near : Nat)) rfl (by kernel_rfl) (by kernel_rfl) (by kernel_rfl) (fun _ _ _ h => h) (Or.inl ⟨by rfl, ?_⟩) (by assumption) ?_
                  · (intro w hSw; obtain ⟨hS0, hS1, hS2, hS3, hS4, hS5, hS6⟩ := hSw; go_simp)
                  try simp only [Act.put, List.setIfInBounds_toArray, List.set_cons_zero, List.set_cons_succ]
                  refine takeH 8 (.pointer (some ⟨w.heap.size + 1, near, none⟩)) rfl (by kernel_rfl) (by kernel_rfl) (by kernel_rfl) (fun _ _ _ h => h) (Or.inl ⟨by rfl, ?_⟩) (by assumption) ?_
                  · (intro w hSw; obtain ⟨hS0, hS1, hS2, hS3, hS4, hS5, hS6⟩ := hSw; go_simp)
                  try simp only [Act.put, List.setIfInBounds_toArray, List.set_cons_zero, List.set_cons_succ]
                  refine wpAnyH_ready (rs := [5, 9]) (by kernel_rfl) (by simp) ?_
                  refine stepH 5 rfl (fun K hK => ?_) (stepH 9 rfl (fun K hK => ?_) AllReadyH.nil)
                  · go_simp
                    refine hK.out _ _ (HS0.out) (fun hHeld => ?_)
                    clear hK K
                    try simp only [Act.put, List.setIfInBounds_toArray, List.set_cons_zero, List.set_cons_succ]
                    refine wpAnyH_ready (rs := [9]) (by kernel_rfl) (by simp) ?_
                    refine stepH 9 rfl (fun K hK => ?_) AllReadyH.nil
                    go_simp
                    refine hK.out _ _ (HS0.out) (fun hHeld => ?_)
                    clear hK K
                    try simp only [Act.put, List.setIfInBounds_toArray, List.set_cons_zero, List.set_cons_succ]
                    refine wpAnyH_ready (rs := [10]) (by kernel_rfl) (by simp) ?_
                    refine stepH 10 rfl (fun K hK => ?_) AllReadyH.nil
                    go_simp
                    go_at_call 27
                    refine (HA.out _).mono ?_
                    rintro e w1 ⟨rfl, hb1⟩
                    have hb2 : Below W'.heap.size W' w1 := below_of (drew_below W') hb1
                    have HS1 : Hid _ := earl_held HS0.out hb2
                    have d1 := cell_later hb2 cW1
                    have d2 := cell_later hb2 cW2
                    have fz := frozen_of (old_block hb2 HQ.out.wb) x.2.to.toNat
                    refine hK.out _ _ (HS1.out) (fun hHeld => ?_)
                    clear hK K
                    try simp only [Act.put, List.setIfInBounds_toArray, List.set_cons_zero, List.set_cons_succ]
                    refine takeH 11 (.int .i64 (min (gt V' x.2.to.toNat) (arr x.2 (gt V' near)))) rfl (by kernel_rfl) (by kernel_rfl) (by kernel_rfl) (fun _ _ _ h => h) (Or.inl ⟨by rfl, ?_⟩) (by assumption) ?_
                    · (intro w hSw; obtain ⟨hS0, hS1, hS2, hS3, hS4, hS5, hS6⟩ := hSw; go_simp; split <;> omega)
                    try simp only [Act.put, List.setIfInBounds_toArray, List.set_cons_zero, List.set_cons_succ]
                    refine takeH 12 (.pointer (some ⟨w.heap.size + 1, x.2.to.toNat, none⟩)) rfl (by kernel_rfl) (by kernel_rfl) (by kernel_rfl) (fun _ _ _ h => h) (Or.inl ⟨by rfl, ?_⟩) (by assumption) ?_
                    · (intro w hSw; obtain ⟨hS0, hS1, hS2, hS3, hS4, hS5, hS6⟩ := hSw; go_simp)
                    try simp only [Act.put, List.setIfInBounds_toArray, List.set_cons_zero, List.set_cons_succ]
                    refine wpAnyH_ready (rs := [13]) (by kernel_rfl) (by simp) ?_
                    refine stepH 13 rfl (fun K hK => ?_) AllReadyH.nil
                    go_simp
                    refine hK.out _ _ (earl_held2 HS1.out (by omega) hfw) (fun hHeld => ?_)
                    clear hK K
                    refine wpAnyH_done (by kernel_rfl) ?_ _
                    exact HG.out w1 hb2
                  · go_simp
                    refine hK.out _ _ (HS0.out) (fun hHeld => ?_)
                    clear hK K
                    try simp only [Act.put, List.setIfInBounds_toArray, List.set_cons_zero, List.set_cons_succ]
                    refine wpAnyH_ready (rs := [5, 10]) (by kernel_rfl) (by simp) ?_
                    refine stepH 5 rfl (fun K hK => ?_) (stepH 10 rfl (fun K hK => ?_) AllReadyH.nil)
                    · go_simp
                      refine hK.out _ _ (HS0.out) (fun hHeld => ?_)
                      clear hK K
                      try simp only [Act.put, List.setIfInBounds_toArray, List.set_cons_zero, List.set_cons_succ]
                      refine wpAnyH_ready (rs := [10]) (by kernel_rfl) (by simp) ?_
                      refine stepH 10 rfl (fun K hK => ?_) AllReadyH.nil
                      go_simp
                      go_at_call 27
                      refine (HA.out _).mono ?_
                      rintro e w1 ⟨rfl, hb1⟩
                      have hb2 : Below W'.heap.size W' w1 := below_of (drew_below W') hb1
                      have HS1 : Hid _ := earl_held HS0.out hb2
                      have d1 := cell_later hb2 cW1
                      have d2 := cell_later hb2 cW2
                      have fz := frozen_of (old_block hb2 HQ.out.wb) x.2.to.toNat
                      refine hK.out _ _ (HS1.out) (fun hHeld => ?_)
                      clear hK K
                      try simp only [Act.put, List.setIfInBounds_toArray, List.set_cons_zero, List.set_cons_succ]
                      refine takeH 11 (.int .i64 (min (gt V' x.2.to.toNat) (arr x.2 (gt V' near)))) rfl (by kernel_rfl) (by kernel_rfl) (by kernel_rfl) (fun _ _ _ h => h) (Or.inl ⟨by rfl, ?_⟩) (by assumption) ?_
                      · (intro w hSw; obtain ⟨hS0, hS1, hS2, hS3, hS4, hS5, hS6⟩ := hSw; go_simp; split <;> omega)
                      try simp only [Act.put, List.setIfInBounds_toArray, List.set_cons_zero, List.set_cons_succ]
                      refine takeH 12 (.pointer (some ⟨w.heap.size + 1, x.2.to.toNat, none⟩)) rfl (by kernel_rfl) (by kernel_rfl) (by kernel_rfl) (fun _ _ _ h => h) (Or.inl ⟨by rfl, ?_⟩) (by assumption) ?_
                      · (intro w hSw; obtain ⟨hS0, hS1, hS2, hS3, hS4, hS5, hS6⟩ := hSw; go_simp)
                      try simp only [Act.put, List.setIfInBounds_toArray, List.set_cons_zero, List.set_cons_succ]
                      refine wpAnyH_ready (rs := [13]) (by kernel_rfl) (by simp) ?_
                      refine stepH 13 rfl (fun K hK => ?_) AllReadyH.nil
                      go_simp
                      refine hK.out _ _ (earl_held2 HS1.out (by omega) hfw) (fun hHeld => ?_)
                      clear hK K
                      refine wpAnyH_done (by kernel_rfl) ?_ _
                      exact HG.out w1 hb2
                    · go_simp
                      go_at_call 27
                      refine (HA.out _).mono ?_
                      rintro e w1 ⟨rfl, hb1⟩
                      have hb2 : Below W'.heap.size W' w1 := below_of (drew_below W') hb1
                      have HS1 : Hid _ := earl_held HS0.out hb2
                      have d1 := cell_later hb2 cW1
                      have d2 := cell_later hb2 cW2
                      have fz := frozen_of (old_block hb2 HQ.out.wb) x.2.to.toNat
                      refine hK.out _ _ (HS1.out) (fun hHeld => ?_)
                      clear hK K
                      try simp only [Act.put, List.setIfInBounds_toArray, List.set_cons_zero, List.set_cons_succ]
                      refine wpAnyH_ready (rs := [5]) (by kernel_rfl) (by simp) ?_
                      refine stepH 5 rfl (fun K hK => ?_) AllReadyH.nil
                      go_simp
                      refine hK.out _ _ (HS1.out) (fun hHeld => ?_)
                      clear hK K
                      try simp only [Act.put, List.setIfInBounds_toArray, List.set_cons_zero, List.set_cons_succ]
                      refine takeH 11 (.int .i64 (min (gt V' x.2.to.toNat) (arr x.2 (gt V' near)))) rfl (by kernel_rfl) (by kernel_rfl) (by kernel_rfl) (fun _ _ _ h => h) (Or.inl ⟨by rfl, ?_⟩) (by assumption) ?_
                      · (intro w hSw; obtain ⟨hS0, hS1, hS2, hS3, hS4, hS5, hS6⟩ := hSw; go_simp; split <;> omega)
                      try simp only [Act.put, List.setIfInBounds_toArray, List.set_cons_zero, List.set_cons_succ]
                      refine takeH 12 (.pointer (some ⟨w.heap.size + 1, x.2.to.toNat, none⟩)) rfl (by kernel_rfl) (by kernel_rfl) (by kernel_rfl) (fun _ _ _ h => h) (Or.inl ⟨by rfl, ?_⟩) (by assumption) ?_
                      · (intro w hSw; obtain ⟨hS0, hS1, hS2, hS3, hS4, hS5, hS6⟩ := hSw; go_simp)
                      try simp only [Act.put, List.setIfInBounds_toArray, List.set_cons_zero, List.set_cons_succ]
                      refine wpAnyH_ready (rs := [13]) (by kernel_rfl) (by simp) ?_
                      refine stepH 13 rfl (fun K hK => ?_) AllReadyH.nil
                      go_simp
                      refine hK.out _ _ (earl_held2 HS1.out (by omega) hfw) (fun hHeld => ?_)
                      clear hK K
                      refine wpAnyH_done (by kernel_rfl) ?_ _
                      exact HG.out w1 hb2
                case done =>
                  rintro D ys W' hD rfl hpre hi hK
                  obtain ⟨V', q1, q2⟩ := hi.ex
                  rw [← hm] at q1
                  have hI2 : Inv X L need node.toNat t (Ds.length + 1) V' (S.set near true) := q1.ends hX (by omega) hnd ht HE.out.2 HNR.out.1 HNR.out.2.1
                  have h62 := count_6 hI2.sl hI2.s0
                  rw [hI2.cnt] at h62
                  gi_wp2
                  refine ⟨?_, ?_⟩
                  · exact ⟨_, _, _, _, _, _, _, _, _, _, _, _, _, _, _, _, _, _, _, _, _, _, _, _, _, _, _, _, _, _, _, _, _, _, _, _, _, _, _, _, _, _, _, _, _, _, _, _, _, _, _, _, _, _, _, _, _, _, _, _, _, _, _, D :: Ds, V', S.set near true, ⟨q2.mark hK (fun h => by have := hDs D h; omega) (by omega), hI2⟩, rfl⟩
                  · simp only [List.length_cons, List.length_map]; omega
                case stop => rintro D c pre W' hD h; exact h.elim
end Go.Proofs.Ytmmcdnniconalaa
