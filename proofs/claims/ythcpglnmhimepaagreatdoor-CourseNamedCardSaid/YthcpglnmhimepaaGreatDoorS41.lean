/- CentNum UnitHad -/
import Derived.Test.YthcpglnmhimepaaGreatDoorS38
section
namespace Go.Proofs.YthcpglnmhimepaaGreatDoor
open Go.Lib (decDigits itoa nDigits parseIntB parseUintB parseMag parseUint10)
theorem num_pos {c:UInt8} (r:List UInt8) (h:c≠48) (hd:digs (c::r)=true):0 < num 0 (c::r):=by
 rw [digs_cons,Bool.and_eq_true,dig_iff] at hd
 have:=num_ge r (0 * 10+(c.toNat - 48))
 rw [num_cons]
 have hne:=toNat_ne h
 have e48:(48:UInt8).toNat=48:=rfl
 omega
theorem ofNat_sub {c:UInt8} (h:dig c=true):UInt8.ofNat (48+(c.toNat - 48))=c:=by
 rw [dig_iff] at h
 apply UInt8.toNat_inj.1
 rw [ofNat_toNat (by omega)]
 omega
theorem dec_num:∀ (k:Nat) (l:List UInt8),l.length=k→plainNum l=true→decDigits (num 0 l)=l:=by
 intro k
 induction k with
 | zero=>intro l hl h;have:l=[]:=List.eq_nil_of_length_eq_zero hl;subst this;cases h
 | succ k ih =>
   intro l hl h
   have hne:l≠[]:=by intro e;subst e;simp at hl
   obtain ⟨l',c,rfl⟩:∃ l' c,l=l'++[c]:=⟨l.dropLast,l.getLast hne,(List.dropLast_concat_getLast hne).symm⟩
   obtain ⟨c0,r0,e0,hc0,hd0⟩:=plainNum_cons h
   rw [←e0,digs_snoc,Bool.and_eq_true] at hd0
   obtain ⟨hdl,hdc⟩:=hd0
   have hcr:=(dig_iff c).1 hdc
   cases l' with
   | nil =>
     simp only [List.nil_append]
     have e1:num 0 [c]=c.toNat - 48:=by simp [num]
     rw [e1,dec_small (by omega),ofNat_sub hdc]
   | cons a r =>
     have ea:a=c0:=by simp at e0;exact e0.1
     subst ea
     have hp:plainNum (a::r)=true:=by simp [plainNum,hc0,hdl]
     have hpos:=num_pos r hc0 hdl
     rw [num_snoc]
     generalize hu:num 0 (a::r)=u at *
     rw [dec_big (by omega),show (u * 10+(c.toNat - 48)) / 10=u by omega,show (u * 10+(c.toNat - 48)) % 10=c.toNat - 48 by omega,ofNat_sub hdc,←hu,ih (a::r) (by simpa using hl) hp]
theorem itoa_val {l:List UInt8} (h:whole l=true):itoa (val l)=l:=by
 cases l with
 | nil=>cases h
 | cons c r =>
   by_cases h45:c=45
   ·subst h45
    rw [whole_minus] at h
    obtain ⟨c',r',e,hc,hd⟩:=plainNum_cons h
    have hpos:=num_pos r' hc hd
    rw [←e] at hpos
    rw [val_minus,itoa,if_pos (by omega),show (-((num 0 r:Nat):Int)).natAbs=num 0 r by omega,dec_num _ r rfl h]
   ·rw [val_other r h45,itoa,if_neg (by omega),Int.toNat_natCast]
    rw [whole_other r h45,Bool.or_eq_true] at h
    rcases h with h | h
    ·have e:c::r=[48]:=by simpa using h
     rw [e];exact dec_zero
    ·exact dec_num _ _ rfl h
theorem itoa_parse {l:List UInt8} (h:parseE l=0):itoa (parseV l)=l:=by
 unfold parseE at h
 split at h
 ·rename_i hw
  split at h
  ·rename_i hf
   simp only [parseV,if_pos hw,if_pos hf]
   exact itoa_val hw
  ·cases h
 ·cases h
end Go.Proofs.YthcpglnmhimepaaGreatDoor
end
section
namespace Go.Proofs.YthcpglnmhimepaaGreatDoor.Un
open Go.RowKit
theorem HadAt.len {W:World} {B Bw:Nat} {v:Value} {L:List (Int × List ByteArray)} (h:HadAt W B Bw v L):∃ p cap,v=.slice p L.length cap:=by
 obtain ⟨LV,h1,h2⟩:=h
 rw [h2.1] at h1
 rcases h1.2 with ⟨rfl,hn⟩ | ⟨g,cap,cur,rfl,_⟩
 ·exact ⟨none,0,by rw [hn]⟩
 ·exact ⟨_,_,rfl⟩
theorem HadAt.at {W:World} {B Bw:Nat} {v:Value} {L:List (Int × List ByteArray)} (h:HadAt W B Bw v L) {i:Nat} {x:Int × List ByteArray} (hx:L[i]?=some x) :
 ∃ g cap u,v=.slice (some ⟨g,0,none⟩) L.length cap∧L.length≤cap∧cap≤maxLen∧W.cell? ⟨g,i * 2,none⟩=some (.int .i64 x.1)∧W.cell? ⟨g,i * 2+1,none⟩=some u∧W.ownsRow Bw 9 1 u x.2.length (x.2.map Value.string):=by
 obtain ⟨LV,h1,h2⟩:=h
 have hi:=(List.getElem?_eq_some_iff.1 hx).1
 obtain ⟨y,hy⟩:∃ y,LV[i]?=some y:=⟨_,List.getElem?_eq_getElem (by rw [h2.1];exact hi)⟩
 obtain ⟨e1,e2⟩:=h2.2 i y x hy hx
 have h0:=h1
 have hlen:=h2.1
 rcases h1.2 with ⟨rfl,hn⟩ | ⟨g,cap,cur,rfl,_,_,hnc,hcm,_⟩
 ·omega
 ·obtain ⟨f0,f1⟩:=flatL_at LV i y hy
  have c0:=h0.cells (g:=g) rfl _ _ f0
  have c1:=h0.cells (g:=g) rfl _ _ f1
  rw [add_off,Nat.zero_add] at c0 c1
  exact ⟨g,cap,y.2,by rw [hlen],by omega,hcm,by rw [←e1];exact c0,c1,e2⟩
end Go.Proofs.YthcpglnmhimepaaGreatDoor.Un
end
