/- BitsReads: Rest. No condition. -/
import Derived.Test.YtpdihllpcnnfdaaReadsB
set_option linter.unusedSimpArgs false
set_option linter.unusedVariables false
namespace Go.Proofs.Ytpdihllpcnnfdaa
open Go.RowKit Ost

set_option maxRecDepth 100000 in
set_option maxHeartbeats 20000000 in
theorem r22_yes {c0 c1 c2 c3 c4 c7 c9 c10 c11 c12 c13 c14 c15 c16 c17 c18 c19 c20 c21 c22 c23 c24 c25 c26 c27 c28 c29 c30 c31 c32 c33 c34 c35 c36 c37 c38 c39 c40 c41 c42 c43 c44 c45 c46 c47 c48 c49 c50 c51 c52 c53 c54 c55 c56 c57 c58 c59 c60 c61 c62 c63 c64 c65 c66 c67 c68 c69 c70 c71 c72 c73 c74 c75 c76 c77 c78 c79 c80 c81 c82 c83 c84 c85 c86 c87 c88 c89 c90 c91 c92 c93 c94 c95 c96 c97 c98 c99 c100 c101 c102 c103 c104 c105 c106 c107 c108 c109 c110 c111 c112 c113 c114 c115 c116 c117 c118 c119 c120 c121 c122 c123 c124 c125 c126 c127 c128 c129 c130 c131 c132 c133 c134 c135 c136 c137 c138 c139 c140 c141 c142 c143 c144 c145 c146 c147 c148 c149 c150 c151 c152 c153 : Value} (Q : Exit → Act → World → Prop) (w w1 Wq : World) (bi bw gq len : Nat) (sv lv : Value) (bs : List Nat) (a e : Nat) (n : Int) (HL : Hid (bs.length = len)) (hlen : len ≤ 60) (HLL0 : Hid ((nums 8 bs).length = 8 * bs.length)) (HLIE : Hid (Lie w w.heap.size w1.heap.size bi bw sv lv)) (HBQ : Hid (Both w Wq w.heap.size w1.heap.size bi bw sv lv bs a e)) (hsz : bi < gq ∧ bw < gq) (hgsz : gq < Wq.heap.size) (hqc : Wq.cell? ⟨gq, 1, none⟩ = some (.int .i64 n)) (hyes : e = 0)
    (hQ : ∀ (w8 : World) (v82 v83 v84 v85 v86 v87 v88 v89 v90 v91 v92 v93 v94 v95 v96 v97 v98 v99 v100 v101 : Value), (∃ a2 e2, Both w w8 w.heap.size w1.heap.size bi bw sv lv bs a2 e2) → Q .normal ⟨#[c0, c1, c2, c3, c4, .pointer (some ⟨bi, 0, none⟩), .pointer (some ⟨bw, 0, none⟩), c7, .pointer (some ⟨gq, 0, none⟩), .bool true, c10, c11, c12, c13, c14, c15, c16, c17, c18, c19, c20, c21, c22, c23, c24, c25, c26, c27, c28, c29, c30, c31, c32, c33, c34, c35, c36, c37, c38, c39, c40, c41, c42, c43, c44, c45, c46, c47, c48, c49, c50, c51, c52, c53, c54, c55, c56, c57, c58, c59, c60, c61, c62, c63, c64, c65, c66, c67, c68, c69, c70, c71, c72, c73, c74, c75, c76, c77, c78, c79, c80, c81, v82, v83, v84, v85, v86, v87, v88, v89, v90, v91, v92, v93, v94, v95, v96, v97, v98, v99, v100, v101, c102, c103, c104, c105, c106, c107, c108, c109, c110, c111, c112, c113, c114, c115, c116, c117, c118, c119, c120, c121, c122, c123, c124, c125, c126, c127, c128, c129, c130, c131, c132, c133, c134, c135, c136, c137, c138, c139, c140, c141, c142, c143, c144, c145, c146, c147, c148, c149, c150, c151, c152, c153], []⟩ w8) :
    reg22.wp Try.prog Q ⟨#[c0, c1, c2, c3, c4, .pointer (some ⟨bi, 0, none⟩), .pointer (some ⟨bw, 0, none⟩), c7, .pointer (some ⟨gq, 0, none⟩), c9, c10, c11, c12, c13, c14, c15, c16, c17, c18, c19, c20, c21, c22, c23, c24, c25, c26, c27, c28, c29, c30, c31, c32, c33, c34, c35, c36, c37, c38, c39, c40, c41, c42, c43, c44, c45, c46, c47, c48, c49, c50, c51, c52, c53, c54, c55, c56, c57, c58, c59, c60, c61, c62, c63, c64, c65, c66, c67, c68, c69, c70, c71, c72, c73, c74, c75, c76, c77, c78, c79, c80, c81, c82, c83, c84, c85, c86, c87, c88, c89, c90, c91, c92, c93, c94, c95, c96, c97, c98, c99, c100, c101, c102, c103, c104, c105, c106, c107, c108, c109, c110, c111, c112, c113, c114, c115, c116, c117, c118, c119, c120, c121, c122, c123, c124, c125, c126, c127, c128, c129, c130, c131, c132, c133, c134, c135, c136, c137, c138, c139, c140, c141, c142, c143, c144, c145, c146, c147, c148, c149, c150, c151, c152, c153], []⟩ Wq := by
  conv => arg 2; whnf
  subst hyes
  obtain ⟨Al0, cl0, hlv0, _, _, _⟩ := own_form HBQ.out.2.1.2.2.1
  have hg := HBQ.out.2.1.2.1
  rw [hlv0] at hg
  have hal1 : a ≤ (nums 8 bs).length := HBQ.out.2.1.2.2.2.1
  have hg0 := hg.cell 0
  have hg1 := hg.cell 1
  simp at hg0 hg1
  clear hg
  obtain ⟨L0, HL0⟩ : ∃ L0, Hid ((nums 8 bs).length = L0) := ⟨_, rfl⟩
  rw [HL0.out] at hg0 hlv0 hal1
  have HLB : Hid (L0 = 8 * bs.length) := HL0.out.symm.trans HLL0.out
  have hL480 : L0 ≤ 480 := by have := HLB.out; have := HL.out; omega
  obtain ⟨d, HD⟩ : ∃ d, Hid (L0 - a = d) := ⟨_, rfl⟩
  obtain ⟨n', HN⟩ : ∃ n', Hid (d / 8 = n') := ⟨_, rfl⟩
  obtain ⟨m, HM⟩ : ∃ m, Hid (8 * n' = m) := ⟨_, rfl⟩
  have hsub : IntKind.i64.wrap ((L0 : Int) - (a : Int)) = (d : Int) := by rw [IntWalk.i64_in _ (by omega)]; have := HD.out; omega
  have hquo : (d : Int) / 8 = (n' : Int) := by have := HN.out; omega
  have hquo2 : (d : Int).tdiv 8 = (n' : Int) := by rw [Int.tdiv_eq_ediv_of_nonneg (by omega)]; exact hquo
  have hn60 : n' ≤ 60 := by have := HD.out; have := HN.out; omega
  have hquo3 : IntKind.i64.wrap (n' : Int) = (n' : Int) := IntWalk.i64_in _ (by omega)
  have hmul : IntKind.i64.wrap ((n' : Int) * 8) = (m : Int) := by rw [IntWalk.i64_in _ (by omega)]; have := HM.out; omega
  have HLV0 := Ost.hid hlv0
  clear hlv0
  have HN2 : Hid ((8 * bs.length - a) / 8 = n') := by have := HLB.out; have := HD.out; have := HN.out; show _ = _; omega
  have hle : a + 8 * n' ≤ 8 * bs.length := by have := HLB.out; have := HD.out; have := HN.out; omega
  have hle2 : a + m ≤ (nums 8 bs).length := by rw [HLL0.out]; have := HM.out; omega
  have hm480 : m ≤ 480 := by have := HM.out; omega
  have hlen' : (((nums 8 bs).drop a).take m).length = m := by rw [List.length_take, List.length_drop]; omega
  refine wp_region_noPanic ?_
  refine wp_region_held_drew (S := fun w' => w'.cell? ⟨bw, 0, none⟩ = some (.slice Al0 L0 cl0)) (by kernel_rfl) ?_ (fun hH0 => ?_)
  · exact hg0
  refine wpAnyH_take (i := 0) (v := ?_) rfl (by kernel_rfl) (by kernel_rfl) (by kernel_rfl) (fun _ _ _ h => h) (Or.inl ⟨by rfl, ?_⟩) (by assumption) ?_
  rotate_left
  · intro w' hSw; (try dsimp only at hSw); go_simp <;> with_reducible rfl
  try simp only [Act.put, List.getElem_cons_zero, List.getElem_cons_succ, List.getElem_toArray, List.setIfInBounds_toArray, List.set_cons_zero, List.set_cons_succ]
  refine wpAnyH_take (i := 3) (v := ?_) rfl (by kernel_rfl) (by kernel_rfl) (by kernel_rfl) (fun _ _ _ h => h) (Or.inl ⟨by rfl, ?_⟩) (by assumption) ?_
  rotate_left
  · intro w' hSw; (try dsimp only at hSw); go_simp <;> with_reducible rfl
  try simp only [Act.put, List.getElem_cons_zero, List.getElem_cons_succ, List.getElem_toArray, List.setIfInBounds_toArray, List.set_cons_zero, List.set_cons_succ]
  refine wpAnyH_take (i := 4) (v := ?_) rfl (by kernel_rfl) (by kernel_rfl) (by kernel_rfl) (fun _ _ _ h => h) (Or.inl ⟨by rfl, ?_⟩) (by assumption) ?_
  rotate_left
  · intro w' hSw; (try dsimp only at hSw); go_simp <;> with_reducible rfl
  try simp only [Act.put, List.getElem_cons_zero, List.getElem_cons_succ, List.getElem_toArray, List.setIfInBounds_toArray, List.set_cons_zero, List.set_cons_succ]
  refine wpAnyH_take (i := 5) (v := ?_) rfl (by kernel_rfl) (by kernel_rfl) (by kernel_rfl) (fun _ _ _ h => h) (Or.inl ⟨by rfl, ?_⟩) (by assumption) ?_
  rotate_left
  · intro w' hSw; (try dsimp only at hSw); go_simp <;> with_reducible rfl
  try simp only [Act.put, List.getElem_cons_zero, List.getElem_cons_succ, List.getElem_toArray, List.setIfInBounds_toArray, List.set_cons_zero, List.set_cons_succ]
  refine wpAnyH_take (i := 6) (v := ?_) rfl (by kernel_rfl) (by kernel_rfl) (by kernel_rfl) (fun _ _ _ h => h) (Or.inl ⟨by rfl, ?_⟩) (by assumption) ?_
  rotate_left
  · intro w' hSw; (try dsimp only at hSw); go_simp <;> with_reducible rfl
  try simp only [Act.put, List.getElem_cons_zero, List.getElem_cons_succ, List.getElem_toArray, List.setIfInBounds_toArray, List.set_cons_zero, List.set_cons_succ]
  refine wpAnyH_take (i := 7) (v := ?_) rfl (by kernel_rfl) (by kernel_rfl) (by kernel_rfl) (fun _ _ _ h => h) (Or.inl ⟨by rfl, ?_⟩) (by assumption) ?_
  rotate_left
  · intro w' hSw; (try dsimp only at hSw); go_simp <;> with_reducible rfl
  try simp only [Act.put, List.getElem_cons_zero, List.getElem_cons_succ, List.getElem_toArray, List.setIfInBounds_toArray, List.set_cons_zero, List.set_cons_succ]
  refine wpAnyH_take (i := 8) (v := ?_) rfl (by kernel_rfl) (by kernel_rfl) (by kernel_rfl) (fun _ _ _ h => h) (Or.inl ⟨by rfl, ?_⟩) (by assumption) ?_
  rotate_left
  · intro w' hSw; (try dsimp only at hSw); go_simp <;> with_reducible rfl
  try simp only [Act.put, List.getElem_cons_zero, List.getElem_cons_succ, List.getElem_toArray, List.setIfInBounds_toArray, List.set_cons_zero, List.set_cons_succ]
  refine wpAnyH_take (i := 9) (v := ?_) rfl (by kernel_rfl) (by kernel_rfl) (by kernel_rfl) (fun _ _ _ h => h) (Or.inl ⟨by rfl, ?_⟩) (by assumption) ?_
  rotate_left
  · intro w' hSw; (try dsimp only at hSw); go_simp <;> with_reducible rfl
  try simp only [Act.put, List.getElem_cons_zero, List.getElem_cons_succ, List.getElem_toArray, List.setIfInBounds_toArray, List.set_cons_zero, List.set_cons_succ]
  refine wpAnyH_take (i := 10) (v := ?_) rfl (by kernel_rfl) (by kernel_rfl) (by kernel_rfl) (fun _ _ _ h => h) (Or.inl ⟨by rfl, ?_⟩) (by assumption) ?_
  rotate_left
  · intro w' hSw; (try dsimp only at hSw); go_simp <;> with_reducible rfl
  try simp only [Act.put, List.getElem_cons_zero, List.getElem_cons_succ, List.getElem_toArray, List.setIfInBounds_toArray, List.set_cons_zero, List.set_cons_succ]
  refine wpAnyH_take (i := 11) (v := ?_) rfl (by kernel_rfl) (by kernel_rfl) (by kernel_rfl) (fun _ _ _ h => h) (Or.inl ⟨by rfl, ?_⟩) (by assumption) ?_
  rotate_left
  · intro w' hSw; (try dsimp only at hSw); go_simp <;> with_reducible rfl
  try simp only [Act.put, List.getElem_cons_zero, List.getElem_cons_succ, List.getElem_toArray, List.setIfInBounds_toArray, List.set_cons_zero, List.set_cons_succ]
  refine wpAnyH_ready (rs := [1, 12]) (by kernel_rfl) (by simp) ?_
  refine AllReadyH.cons rfl (fun K hK => ?_) (AllReadyH.cons rfl (fun K hK => ?_) (AllReadyH.nil))
  · go_simp
    go_at_call 23; refine (rest_yes _ bi sv bs a Wq.drew HBQ.out.1).mono ?_; rw [HN2.out]; rintro r5 w5 ⟨A5, c5, rfl, hown5, hin5, ho5⟩; have hbk5 : ∀ i, blockOf A5 = some i → gq < i := (fun i hi => by have h5 := (hown5.lt i (by rw [ownBlock_slice]; exact hi)).1; have h6 : Wq.drew.heap.size = Wq.heap.size := rfl; omega); have href5 := Both.ref HBQ.out.drew HLIE.out ho5; have hz5 := href5.2.1; rw [HLV0.out] at hz5; have hz50 := hz5.cell 0; have hz51 := hz5.cell 1; simp at hz50 hz51; clear hz5; have hst5 := run_str w5 A5 n' c5 (cut bs a n') (cut_length _ _ _) (Sees.of_own hown5)
    refine hK.out _ _ ?_ (fun hH1 => ?_)
    · exact hz50
    clear hK K
    clear hH0
    try simp only [Act.put, List.getElem_cons_zero, List.getElem_cons_succ, List.getElem_toArray, List.setIfInBounds_toArray, List.set_cons_zero, List.set_cons_succ]
    refine wpAnyH_more (fun w' => (w'.cell? ⟨bw, 0, none⟩ = some (.slice Al0 L0 cl0)) ∧ (convert 22 9 (.slice A5 n' c5)).run Try.prog w' = .ok (.string (str (cut bs a n'))) w') (fun _ h => h.1) (⟨hz50, hst5⟩) (fun hH2 => ?_)
    clear hH1
    refine wpAnyH_take (i := 2) (v := ?_) rfl (by kernel_rfl) (by kernel_rfl) (by kernel_rfl) (fun _ _ _ h => h) (Or.inl ⟨by rfl, ?_⟩) (by assumption) ?_
    rotate_left
    · intro w' hSw; (try dsimp only at hSw); go_simp <;> with_reducible rfl
    try simp only [Act.put, List.getElem_cons_zero, List.getElem_cons_succ, List.getElem_toArray, List.setIfInBounds_toArray, List.set_cons_zero, List.set_cons_succ]
    refine wpAnyH_ready (rs := [12]) (by kernel_rfl) (by simp) ?_
    refine AllReadyH.cons rfl (fun K hK => ?_) AllReadyH.nil
    go_simp

    refine hK.out _ _ ?_ (fun hH3 => ?_)
    · exact ⟨hz50, hst5⟩
    clear hK K
    clear hH2
    try simp only [Act.put, List.getElem_cons_zero, List.getElem_cons_succ, List.getElem_toArray, List.setIfInBounds_toArray, List.set_cons_zero, List.set_cons_succ]
    refine wpAnyH_take (i := 13) (v := ?_) rfl (by kernel_rfl) (by kernel_rfl) (by kernel_rfl) (fun _ _ _ h => h) (Or.inl ⟨by rfl, ?_⟩) (by assumption) ?_
    rotate_left
    · intro w' hSw; (try dsimp only at hSw); go_simp <;> with_reducible rfl
    try simp only [Act.put, List.getElem_cons_zero, List.getElem_cons_succ, List.getElem_toArray, List.setIfInBounds_toArray, List.set_cons_zero, List.set_cons_succ]
    refine wpAnyH_take (i := 14) (v := ?_) rfl (by kernel_rfl) (by kernel_rfl) (by kernel_rfl) (fun _ _ _ h => h) (Or.inl ⟨by rfl, ?_⟩) (by assumption) ?_
    rotate_left
    · intro w' hSw; (try dsimp only at hSw); go_simp <;> with_reducible rfl
    try simp only [Act.put, List.getElem_cons_zero, List.getElem_cons_succ, List.getElem_toArray, List.setIfInBounds_toArray, List.set_cons_zero, List.set_cons_succ]
    refine wpAnyH_take (i := 15) (v := ?_) rfl (by kernel_rfl) (by kernel_rfl) (by kernel_rfl) (fun _ _ _ h => h) (Or.inl ⟨by rfl, ?_⟩) (by assumption) ?_
    rotate_left
    · intro w' hSw; (try dsimp only at hSw); go_simp <;> with_reducible rfl
    try simp only [Act.put, List.getElem_cons_zero, List.getElem_cons_succ, List.getElem_toArray, List.setIfInBounds_toArray, List.set_cons_zero, List.set_cons_succ]
    refine wpAnyH_ready (rs := [16]) (by kernel_rfl) (by simp) ?_
    refine AllReadyH.cons rfl (fun K hK => ?_) AllReadyH.nil
    go_simp
    go_at_call 19; refine (take_yes _ bw m lv (nums 8 bs) a w5 href5 hle2).mono ?_; rintro r6 w6 ⟨A6, c6, rfl, hsee6, hA6, href6, ho6⟩; rw [← HM.out] at href6; have hz6 := href6.2.1; rw [HLV0.out] at hz6; have hz60 := hz6.cell 0; have hz61 := hz6.cell 1; simp at hz60 hz61; clear hz6; have hse6 := (Sees.of_own hown5).only ho6 (fun i hi (e : i = bw) => by have := hbk5 i hi; omega); have hst6 := run_str w6 A5 n' c5 (cut bs a n') (cut_length _ _ _) hse6
    refine hK.out _ _ ?_ (fun hH4 => ?_)
    · exact ⟨hz60, hst6⟩
    clear hK K
    clear hH3
    try simp only [Act.put, List.getElem_cons_zero, List.getElem_cons_succ, List.getElem_toArray, List.setIfInBounds_toArray, List.set_cons_zero, List.set_cons_succ]
    refine wpAnyH_ready (rs := [17]) (by kernel_rfl) (by simp) ?_
    refine AllReadyH.cons rfl (fun K hK => ?_) AllReadyH.nil
    go_simp
    go_at_call 14; refine (refDone_any A6 m c6 (((nums 8 bs).drop a).take m) w6 hlen' hsee6 (by omega)).mono ?_; rintro r8 w8 ⟨A8, c8, cs8, hp8, rfl, hown8, ho8⟩; obtain rfl : cs8 = cut bs a n' := packs_cut hle (by rw [HM.out]; exact hp8); rw [cut_length]; have hz80 : w8.cell? ⟨bw, 0, none⟩ = some (.slice Al0 L0 cl0) := (ho8.cell (p := ⟨bw, 0, none⟩) href6.2.1.lt (fun h => h)).trans hz60; have hst8 := run_str w8 A8 n' c8 (cut bs a n') (cut_length _ _ _) (Sees.of_own hown8); have hst58 := run_str w8 A5 n' c5 (cut bs a n') (cut_length _ _ _) (hse6.only ho8 (fun _ _ e => e))
    refine hK.out _ _ ?_ (fun hH5 => ?_)
    · exact ⟨hz80, hst58⟩
    clear hK K
    clear hH4
    try simp only [Act.put, List.getElem_cons_zero, List.getElem_cons_succ, List.getElem_toArray, List.setIfInBounds_toArray, List.set_cons_zero, List.set_cons_succ]
    refine wpAnyH_more (fun w' => ((w'.cell? ⟨bw, 0, none⟩ = some (.slice Al0 L0 cl0)) ∧ (convert 22 9 (.slice A5 n' c5)).run Try.prog w' = .ok (.string (str (cut bs a n'))) w') ∧ (convert 22 9 (.slice A8 n' c8)).run Try.prog w' = .ok (.string (str (cut bs a n'))) w') (fun _ h => h.1) (⟨⟨hz80, hst58⟩, hst8⟩) (fun hH6 => ?_)
    clear hH5
    refine wpAnyH_take (i := 18) (v := ?_) rfl (by kernel_rfl) (by kernel_rfl) (by kernel_rfl) (fun _ _ _ h => h) (Or.inl ⟨by rfl, ?_⟩) (by assumption) ?_
    rotate_left
    · intro w' hSw; (try dsimp only at hSw); go_simp <;> with_reducible rfl
    try simp only [Act.put, List.getElem_cons_zero, List.getElem_cons_succ, List.getElem_toArray, List.setIfInBounds_toArray, List.set_cons_zero, List.set_cons_succ]
    refine wpAnyH_take (i := 19) (v := ?_) rfl (by kernel_rfl) (by kernel_rfl) (by kernel_rfl) (fun _ _ _ h => h) (Or.inl ⟨by rfl, ?_⟩) (by assumption) ?_
    rotate_left
    · intro w' hSw; (try dsimp only at hSw); go_simp <;> with_reducible rfl
    try simp only [Act.put, List.getElem_cons_zero, List.getElem_cons_succ, List.getElem_toArray, List.setIfInBounds_toArray, List.set_cons_zero, List.set_cons_succ]
    refine wpAnyH_take (i := 20) (v := ?_) rfl (by kernel_rfl) (by kernel_rfl) (by kernel_rfl) (fun _ _ _ h => h) (Or.inl ⟨by rfl, ?_⟩) (by assumption) ?_
    rotate_left
    · intro w' hSw; (try dsimp only at hSw); go_simp <;> with_reducible rfl
    try simp only [Act.put, List.getElem_cons_zero, List.getElem_cons_succ, List.getElem_toArray, List.setIfInBounds_toArray, List.set_cons_zero, List.set_cons_succ]
    refine wpAnyH_done (by kernel_rfl) ?_ _
    refine NoPanic.normal ?_
    clear hH6
    have hst : ∃ a2 e2, Both w w8 w.heap.size w1.heap.size bi bw sv lv bs a2 e2 := ⟨_, _, (Both.step HBQ.out.drew HLIE.out hin5 ho5 href6 ho6).keep ho8⟩
    exact hQ _ _ _ _ _ _ _ _ _ _ _ _ _ _ _ _ _ _ _ _ _ hst
  · go_simp
    refine hK.out _ _ ?_ (fun hH1 => ?_)
    · exact hg0
    clear hK K
    clear hH0
    try simp only [Act.put, List.getElem_cons_zero, List.getElem_cons_succ, List.getElem_toArray, List.setIfInBounds_toArray, List.set_cons_zero, List.set_cons_succ]
    refine wpAnyH_take (i := 13) (v := ?_) rfl (by kernel_rfl) (by kernel_rfl) (by kernel_rfl) (fun _ _ _ h => h) (Or.inl ⟨by rfl, ?_⟩) (by assumption) ?_
    rotate_left
    · intro w' hSw; (try dsimp only at hSw); go_simp <;> with_reducible rfl
    try simp only [Act.put, List.getElem_cons_zero, List.getElem_cons_succ, List.getElem_toArray, List.setIfInBounds_toArray, List.set_cons_zero, List.set_cons_succ]
    refine wpAnyH_take (i := 14) (v := ?_) rfl (by kernel_rfl) (by kernel_rfl) (by kernel_rfl) (fun _ _ _ h => h) (Or.inl ⟨by rfl, ?_⟩) (by assumption) ?_
    rotate_left
    · intro w' hSw; (try dsimp only at hSw); go_simp <;> with_reducible rfl
    try simp only [Act.put, List.getElem_cons_zero, List.getElem_cons_succ, List.getElem_toArray, List.setIfInBounds_toArray, List.set_cons_zero, List.set_cons_succ]
    refine wpAnyH_take (i := 15) (v := ?_) rfl (by kernel_rfl) (by kernel_rfl) (by kernel_rfl) (fun _ _ _ h => h) (Or.inl ⟨by rfl, ?_⟩) (by assumption) ?_
    rotate_left
    · intro w' hSw; (try dsimp only at hSw); go_simp <;> with_reducible rfl
    try simp only [Act.put, List.getElem_cons_zero, List.getElem_cons_succ, List.getElem_toArray, List.setIfInBounds_toArray, List.set_cons_zero, List.set_cons_succ]
    refine wpAnyH_ready (rs := [1]) (by kernel_rfl) (by simp) ?_
    refine AllReadyH.cons rfl (fun K hK => ?_) AllReadyH.nil
    go_simp
    go_at_call 23; refine (rest_yes _ bi sv bs a Wq.drew HBQ.out.1).mono ?_; rw [HN2.out]; rintro r5 w5 ⟨A5, c5, rfl, hown5, hin5, ho5⟩; have hbk5 : ∀ i, blockOf A5 = some i → gq < i := (fun i hi => by have h5 := (hown5.lt i (by rw [ownBlock_slice]; exact hi)).1; have h6 : Wq.drew.heap.size = Wq.heap.size := rfl; omega); have href5 := Both.ref HBQ.out.drew HLIE.out ho5; have hz5 := href5.2.1; rw [HLV0.out] at hz5; have hz50 := hz5.cell 0; have hz51 := hz5.cell 1; simp at hz50 hz51; clear hz5; have hst5 := run_str w5 A5 n' c5 (cut bs a n') (cut_length _ _ _) (Sees.of_own hown5)
    refine hK.out _ _ ?_ (fun hH2 => ?_)
    · exact hz50
    clear hK K
    clear hH1
    try simp only [Act.put, List.getElem_cons_zero, List.getElem_cons_succ, List.getElem_toArray, List.setIfInBounds_toArray, List.set_cons_zero, List.set_cons_succ]
    refine wpAnyH_more (fun w' => (w'.cell? ⟨bw, 0, none⟩ = some (.slice Al0 L0 cl0)) ∧ (convert 22 9 (.slice A5 n' c5)).run Try.prog w' = .ok (.string (str (cut bs a n'))) w') (fun _ h => h.1) (⟨hz50, hst5⟩) (fun hH3 => ?_)
    clear hH2
    refine wpAnyH_take (i := 2) (v := ?_) rfl (by kernel_rfl) (by kernel_rfl) (by kernel_rfl) (fun _ _ _ h => h) (Or.inl ⟨by rfl, ?_⟩) (by assumption) ?_
    rotate_left
    · intro w' hSw; (try dsimp only at hSw); go_simp <;> with_reducible rfl
    try simp only [Act.put, List.getElem_cons_zero, List.getElem_cons_succ, List.getElem_toArray, List.setIfInBounds_toArray, List.set_cons_zero, List.set_cons_succ]
    refine wpAnyH_ready (rs := [16]) (by kernel_rfl) (by simp) ?_
    refine AllReadyH.cons rfl (fun K hK => ?_) AllReadyH.nil
    go_simp
    go_at_call 19; refine (take_yes _ bw m lv (nums 8 bs) a w5 href5 hle2).mono ?_; rintro r6 w6 ⟨A6, c6, rfl, hsee6, hA6, href6, ho6⟩; rw [← HM.out] at href6; have hz6 := href6.2.1; rw [HLV0.out] at hz6; have hz60 := hz6.cell 0; have hz61 := hz6.cell 1; simp at hz60 hz61; clear hz6; have hse6 := (Sees.of_own hown5).only ho6 (fun i hi (e : i = bw) => by have := hbk5 i hi; omega); have hst6 := run_str w6 A5 n' c5 (cut bs a n') (cut_length _ _ _) hse6
    refine hK.out _ _ ?_ (fun hH4 => ?_)
    · exact ⟨hz60, hst6⟩
    clear hK K
    clear hH3
    try simp only [Act.put, List.getElem_cons_zero, List.getElem_cons_succ, List.getElem_toArray, List.setIfInBounds_toArray, List.set_cons_zero, List.set_cons_succ]
    refine wpAnyH_ready (rs := [17]) (by kernel_rfl) (by simp) ?_
    refine AllReadyH.cons rfl (fun K hK => ?_) AllReadyH.nil
    go_simp
    go_at_call 14; refine (refDone_any A6 m c6 (((nums 8 bs).drop a).take m) w6 hlen' hsee6 (by omega)).mono ?_; rintro r8 w8 ⟨A8, c8, cs8, hp8, rfl, hown8, ho8⟩; obtain rfl : cs8 = cut bs a n' := packs_cut hle (by rw [HM.out]; exact hp8); rw [cut_length]; have hz80 : w8.cell? ⟨bw, 0, none⟩ = some (.slice Al0 L0 cl0) := (ho8.cell (p := ⟨bw, 0, none⟩) href6.2.1.lt (fun h => h)).trans hz60; have hst8 := run_str w8 A8 n' c8 (cut bs a n') (cut_length _ _ _) (Sees.of_own hown8); have hst58 := run_str w8 A5 n' c5 (cut bs a n') (cut_length _ _ _) (hse6.only ho8 (fun _ _ e => e))
    refine hK.out _ _ ?_ (fun hH5 => ?_)
    · exact ⟨hz80, hst58⟩
    clear hK K
    clear hH4
    try simp only [Act.put, List.getElem_cons_zero, List.getElem_cons_succ, List.getElem_toArray, List.setIfInBounds_toArray, List.set_cons_zero, List.set_cons_succ]
    refine wpAnyH_more (fun w' => ((w'.cell? ⟨bw, 0, none⟩ = some (.slice Al0 L0 cl0)) ∧ (convert 22 9 (.slice A5 n' c5)).run Try.prog w' = .ok (.string (str (cut bs a n'))) w') ∧ (convert 22 9 (.slice A8 n' c8)).run Try.prog w' = .ok (.string (str (cut bs a n'))) w') (fun _ h => h.1) (⟨⟨hz80, hst58⟩, hst8⟩) (fun hH6 => ?_)
    clear hH5
    refine wpAnyH_take (i := 18) (v := ?_) rfl (by kernel_rfl) (by kernel_rfl) (by kernel_rfl) (fun _ _ _ h => h) (Or.inl ⟨by rfl, ?_⟩) (by assumption) ?_
    rotate_left
    · intro w' hSw; (try dsimp only at hSw); go_simp <;> with_reducible rfl
    try simp only [Act.put, List.getElem_cons_zero, List.getElem_cons_succ, List.getElem_toArray, List.setIfInBounds_toArray, List.set_cons_zero, List.set_cons_succ]
    refine wpAnyH_take (i := 19) (v := ?_) rfl (by kernel_rfl) (by kernel_rfl) (by kernel_rfl) (fun _ _ _ h => h) (Or.inl ⟨by rfl, ?_⟩) (by assumption) ?_
    rotate_left
    · intro w' hSw; (try dsimp only at hSw); go_simp <;> with_reducible rfl
    try simp only [Act.put, List.getElem_cons_zero, List.getElem_cons_succ, List.getElem_toArray, List.setIfInBounds_toArray, List.set_cons_zero, List.set_cons_succ]
    refine wpAnyH_take (i := 20) (v := ?_) rfl (by kernel_rfl) (by kernel_rfl) (by kernel_rfl) (fun _ _ _ h => h) (Or.inl ⟨by rfl, ?_⟩) (by assumption) ?_
    rotate_left
    · intro w' hSw; (try dsimp only at hSw); go_simp <;> with_reducible rfl
    try simp only [Act.put, List.getElem_cons_zero, List.getElem_cons_succ, List.getElem_toArray, List.setIfInBounds_toArray, List.set_cons_zero, List.set_cons_succ]
    refine wpAnyH_done (by kernel_rfl) ?_ _
    refine NoPanic.normal ?_
    clear hH6
    have hst : ∃ a2 e2, Both w w8 w.heap.size w1.heap.size bi bw sv lv bs a2 e2 := ⟨_, _, (Both.step HBQ.out.drew HLIE.out hin5 ho5 href6 ho6).keep ho8⟩
    exact hQ _ _ _ _ _ _ _ _ _ _ _ _ _ _ _ _ _ _ _ _ _ hst

end Go.Proofs.Ytpdihllpcnnfdaa
