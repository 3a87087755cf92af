import Derived.Test.YtacaoiedcfelcaaGreatDoorHeadsPlain
import Derived.Lib.IndexMore
import Derived.Test.YtacaoiedcfelcaaGreatDoorAllOf
import Derived.WalkKit
import Derived.Laws.OwnMore
import Derived.Test.YtacaoiedcfelcaaGreatDoorChecked
import Derived.WalkSmall
import Derived.WalkLawsBesides
import Derived.WalkSpells
import Derived.Lib.QuietBelow
import Derived.Deep.QuietTactic
import Derived.BigQuiet
import Derived.Deep.RegionWith
set_option maxRecDepth 20000
set_option maxHeartbeats 4000000
namespace Go.Proofs.YtacaoiedcfelcaaGreatDoor
namespace Pl
structure Ag (L L':List UInt8)(d B:Nat):Prop where
 len:d+L.length≤L'.length
 le:B≤L.length
 at_:∀j,j<B→b L' (d+j)=b L j
variable {L L':List UInt8} {d B:Nat}
theorem stop_ag (h:Ag L L' d B)(K:UInt8→Bool)(k:Nat)(hk:k≤L.length)(hs:stop K L k<B):stop K L' (d+k)=d+stop K L k:=by
 have h0:=h.len
 have h1:=h.le
 have h2:=stop_ge K L k hk
 refine stop_eq K L' (d+k) _ (by omega) (by omega) (fun j j1 j2=>?_) (fun _=>?_)
 ·obtain⟨m,rfl⟩:∃m,j=d+m:=⟨j-d,by omega⟩
  rw[h.at_ m (by omega)]
  exact stop_all K L k hk m (by omega) (by omega)
 ·rw[h.at_ _ hs]
  exact stop_not K L k hk (by omega)
theorem crlf_of_b (l:List UInt8)(k:Nat)(h:k+1<l.length):crlf l k=(b l k==13 && b l (k+1)==10):=by
 rw[Bool.eq_iff_iff,crlf_iff,b_lt l k (by omega),b_lt l (k+1) h]
 simp only[Bool.and_eq_true,beq_iff_eq]
 exact⟨fun ⟨_,a,b⟩=>⟨a,b⟩,fun ⟨a,b⟩=>⟨h,a,b⟩⟩
theorem crlf_ag (h:Ag L L' d B)(k:Nat)(hk:k+1<B):crlf L' (d+k)=crlf L k:=by
 have h0:=h.len
 have h1:=h.le
 rw[crlf_of_b L' _ (by omega),crlf_of_b L _ (by omega),Nat.add_assoc,h.at_ k (by omega),h.at_ (k+1) hk]
theorem fold_ag (h:Ag L L' d B)(k:Nat)(hk:k+2<B):fold L' (d+k)=fold L k:=by
 have h0:=h.len
 have h1:=h.le
 rw[fold_of_b L' _ (by omega),fold_of_b L _ (by omega),Nat.add_assoc,Nat.add_assoc,h.at_ k (by omega),h.at_ (k+1) (by omega),h.at_ (k+2) hk]
theorem fold_in (l:List UInt8)(k:Nat)(h:fold l k=true):k+2<l.length:=by
 obtain⟨h,-⟩:=(fold_iff l k).1 h
 exact h
theorem vend_ge (l:List UInt8):∀(f cur beg:Nat),cur≤l.length→cur≤(vend l f cur beg).1
 | 0,cur,beg,_=>Nat.le_refl _
 | f+1,cur,beg,h=>by
  have h2:=stop_ge lb l cur h
  rw[vend]
  split
  ·rename_i hf
   have h3:=fold_in _ _ hf
   have:=vend_ge l f (stop lb l cur+2) (stop lb l cur+2) (by omega)
   omega
  ·exact h2
theorem vend_ag (h:Ag L L' d B):∀(f f' cur beg:Nat),f≤f'→L.length+1≤f+cur→cur≤L.length→(vend L f cur beg).1+2<B→vend L' f' (d+cur) (d+beg)=(d+(vend L f cur beg).1,d+(vend L f cur beg).2)
 | 0,f',cur,beg,_,hf,hc,_=>by omega
 | f+1,f',cur,beg,hff,hf,hc,hB=>by
  obtain⟨g,rfl⟩:∃g,f'=g+1:=⟨f'-1,by omega⟩
  have h2:=stop_ge lb L cur hc
  rw[vend] at hB ⊢
  rw[vend]
  split at hB
  ·rename_i hfo
   have h3:=fold_in _ _ hfo
   have h4:=vend_ge L f (stop lb L cur+2) (stop lb L cur+2) (by omega)
   rw[stop_ag h lb cur hc (by omega),fold_ag h _ (by omega),hfo]
   simp only[if_true]
   exact vend_ag h f g (stop lb L cur+2) (stop lb L cur+2) (by omega) (by omega) (by omega) hB
  ·rename_i hfo
   rw[stop_ag h lb cur hc (by omega),fold_ag h _ hB]
   rw[if_neg hfo,if_neg hfo]
theorem sl_ag (h:Ag L L' d B)(i j:Nat)(hj:j≤B):sl L' (d+i) (d+j)=sl L i j:=by
 have h0:=h.len
 have h1:=h.le
 unfold sl
 rw[show d+j-(d+i)=j-i by omega]
 apply List.ext_getElem?
 intro m
 rw[List.getElem?_take,List.getElem?_take]
 split
 ·rename_i hm
  rw[List.getElem?_drop,List.getElem?_drop]
  have hb:=h.at_ (i+m) (by omega)
  rw[b_lt L _ (by omega),b_lt L' _ (by omega)] at hb
  rw[List.getElem?_eq_getElem (by omega),List.getElem?_eq_getElem (by omega)]
  congr 1
  rw[← hb]
  congr 1
  omega
 ·rfl
theorem implF_ag (h:Ag L L' d B)(k x:Nat)(n v:List UInt8)(hk:k<L.length)(hI:implF L k=.inr (n,v,x))(hx:x+1<B):implF L' (d+k)=.inr (n,v,d+x):=by
 have h0:=h.len
 have h1:=h.le
 unfold implF at hI
 split at hI
 ·rename_i hg
  have hg2:=hg
  unfold nameGood at hg2
  simp only[Bool.and_eq_true,decide_eq_true_eq,beq_iff_eq] at hg2
  obtain⟨hn,hlt,hco⟩:=hg2
  have s1:=stop_ge nb L k (by omega)
  have s1':=stop_le nb L k (by omega)
  have s2:=stop_ge blank L (stop nb L k) s1'
  have hv:=vend_ge L (L.length+1) (stop blank L (stop nb L k)+1) k (by omega)
  simp only at hI
  split at hI
  ·rename_i hle
   simp only[Sum.inr.injEq,Prod.mk.injEq] at hI
   omega
  ·rename_i hle
   split at hI
   ·rename_i hcr
    simp only[Sum.inr.injEq,Prod.mk.injEq] at hI
    obtain⟨e1,e2,e3⟩:=hI
    have p1:=stop_ag h nb k (by omega) (by omega)
    have p2:=stop_ag h blank (stop nb L k) s1' (by omega)
    have hva:=vend_ag h (L.length+1) (L'.length+1) (stop blank L (stop nb L k)+1) k (by omega) (by omega) (by omega) (by omega)
    have hg':nameGood L' (d+k)=true:=by
     unfold nameGood
     rw[p1,p2,sl_ag h _ _ (by omega),hn,h.at_ _ (by omega),hco,decide_eq_true (by omega)]
     rfl
    unfold implF
    rw[if_pos hg']
    simp only[p1,p2]
    rw[show d+stop blank L (stop nb L k)+1=d+(stop blank L (stop nb L k)+1) by omega,hva]
    simp only
    rw[if_neg (by omega),crlf_ag h _ (by omega),hcr,if_pos rfl,sl_ag h _ _ (by omega),sl_ag h _ _ (by omega),e1,e2]
    rw[show d+(vend L (L.length+1) (stop blank L (stop nb L k)+1) k).1+2=d+x by omega]
   ·cases hI
 ·cases hI
theorem field_next (l:List UInt8)(k x:Nat)(n v:List UInt8)(hk:k<l.length)(h:implF l k=.inr (n,v,x)):k<x∧x≤l.length:=by
 unfold implF at h
 split at h
 ·rename_i hg
  unfold nameGood at hg
  simp only[Bool.and_eq_true,decide_eq_true_eq] at hg
  have s1:=stop_ge nb l k (by omega)
  have s1':=stop_le nb l k (by omega)
  have s2:=stop_ge blank l (stop nb l k) s1'
  have hv:=vend_ge l (l.length+1) (stop blank l (stop nb l k)+1) k (by omega)
  simp only at h
  split at h
  ·simp only[Sum.inr.injEq,Prod.mk.injEq] at h
   omega
  ·split at h
   ·rename_i hc
    obtain⟨hc2,-⟩:=(crlf_iff _ _).1 hc
    simp only[Sum.inr.injEq,Prod.mk.injEq] at h
    omega
   ·cases h
 ·cases h
theorem rd_ge (l:List UInt8):∀(g k:Nat)(fs:List Fl),k≤l.length→l.length+1≤g+k→(rd l g k fs).code=0→fs.length≤(rd l g k fs).fields.length∧((rd l g k fs).body=l.length∨k+2≤(rd l g k fs).body)
 | 0,k,fs,hk,hg,_=>by omega
 | g+1,k,fs,hk,hg,hc=>by
  rw[rd] at hc ⊢
  split at hc
  ·rename_i h
   rw[if_pos h]
   exact⟨Nat.le_refl _,.inl rfl⟩
  ·rename_i h
   rw[if_neg h]
   split at hc
   ·rename_i h2
    rw[if_pos h2]
    exact⟨Nat.le_refl _,.inr (Nat.le_refl _)⟩
   ·rename_i h2
    rw[if_neg h2]
    cases hI:implF l k with
    | inl p=>rw[hI] at hc;cases hc
    | inr y=>
     obtain⟨n,v,x⟩:=y
     rw[hI] at hc
     simp only at hc ⊢
     split at hc
     ·cases hc
     ·rename_i h3
      rw[if_neg h3]
      obtain⟨hx,hxl⟩:=field_next l k x n v (by omega) hI
      obtain⟨i1,i2⟩:=rd_ge l g x (fs ++ [(n,v)]) hxl (by omega) hc
      rw[List.length_append,List.length_singleton] at i1
      exact⟨by omega,by omega⟩
theorem rd_ag (fs0:List Fl):∀(g g' k:Nat)(fs:List Fl),Ag L L' d B→B<L.length→g≤g'→k≤L.length→L.length+1≤g+k→(rd L g k fs).code=0→(rd L g k fs).body=B→fs0.length+(rd L g k fs).fields.length≤200 →
  rd L' g' (d+k) (fs0++fs)=⟨0,0,d+B,fs0++(rd L g k fs).fields⟩
 | 0,g',k,fs,_,_,_,hk,hg,_,_,_=>by omega
 | g+1,g',k,fs,h,hB,hgg,hk,hg,hc,hb,hl=>by
  obtain⟨u,rfl⟩:∃u,g'=u+1:=⟨g'-1,by omega⟩
  have h0:=h.len
  rw[rd] at hc hb hl ⊢
  rw[rd]
  split at hc
  ·rename_i h1
   rw[if_pos h1] at hb
   simp only at hb
   omega
  ·rename_i h1
   rw[if_neg h1] at hb hl ⊢
   rw[if_neg (show ¬L'.length≤d+k by omega)]
   split at hc
   ·rename_i h2
    rw[if_pos h2] at hb hl ⊢
    simp only at hb
    rw[crlf_ag h k (by omega),if_pos h2]
    simp only
    rw[← hb,Nat.add_assoc]
   ·rename_i h2
    rw[if_neg h2] at hb hl ⊢
    cases hI:implF L k with
    | inl p=>rw[hI] at hc;cases hc
    | inr y=>
     obtain⟨n,v,x⟩:=y
     rw[hI] at hc hb hl
     simp only at hc hb hl ⊢
     split at hc
     ·cases hc
     ·rename_i h3
      rw[if_neg h3] at hb hl ⊢
      obtain⟨hx,hxl⟩:=field_next L k x n v (by omega) hI
      obtain⟨i1,i2⟩:=rd_ge L g x (fs ++ [(n,v)]) hxl (by omega) hc
      rw[List.length_append,List.length_singleton] at i1
      rw[hb] at i2
      rw[crlf_ag h k (by omega),if_neg h2,implF_ag h k x n v (by omega) hI (by omega)]
      simp only
      rw[if_neg (by rw[List.length_append];omega),List.append_assoc]
      exact rd_ag fs0 g u x (fs ++ [(n,v)]) h hB (by omega) hxl (by omega) hc hb hl
theorem readHead_line (n v:List UInt8)(m m':List UInt8)(hn:nameOk n=true)(hv:val v=true)(hc:(readHead m).code=0)(hf:(readHead m).fields.length<200)(hB:(readHead m).body<m.length)
  (hl:m.length≤m'.length) (he:∀j,j<(readHead m).body→b m' j=b m j) :
  readHead (lineL (n,v)++m')=⟨0,0,(lineL (n,v)).length+(readHead m).body,(n,v)::(readHead m).fields⟩:=by
 obtain⟨B,hBe⟩:∃B,B=(readHead m).body:=⟨_,rfl⟩
 rw[← hBe] at hB he ⊢
 have hLl:(lineL (n,v)).length+m.length≤(lineL (n,v)++m').length:=by rw[List.length_append];omega
 have hag:Ag m (lineL (n,v)++m') (lineL (n,v)).length B:=⟨hLl,by omega,fun j hj=>by rw[b_at];exact he j hj⟩
 have hm0:0<m.length:=by omega
 have hge:=rd_ge m (m.length+1) 0 [] (Nat.zero_le _) (by omega) hc
 have hB2:2≤B:=by
  have:=hge.2
  change (readHead m).body=_∨_≤(readHead m).body at this
  omega
 have hbl:blank (b m' 0)=false:=by
  rw[he 0 (by omega)]
  have hc2:=hc
  unfold readHead at hc2
  rw[rd,if_neg (by omega)] at hc2
  split at hc2
  ·rename_i h1
   rw[crlf_of_b m 0 (by omega)] at h1
   simp only[Bool.and_eq_true,beq_iff_eq] at h1
   rw[h1.1];decide
  ·cases hI:implF m 0 with
   | inl p=>rw[hI] at hc2;cases hc2
   | inr y=>
    unfold implF at hI
    split at hI
    ·rename_i hg
     unfold nameGood at hg
     simp only[Bool.and_eq_true] at hg
     have hno:=hg.1
     cases hbb:blank (b m 0)
     ·rfl
     ·exfalso
      have hs:stop nb m 0=0:=stop_eq nb m 0 0 (Nat.le_refl _) (by omega) (fun j h1 h2=>by omega) (fun _=>by
       cases hnb:nb (b m 0)
       ·rfl
       ·rw[nb_blank _ hnb] at hbb;cases hbb)
      rw[hs] at hno
      unfold nameOk sl at hno
      simp at hno
    ·cases hI
 have hline:lineL (n,v)++m'=[]++(n++(58::(v++(13::10::m')))):=by simp[lineL]
 have hI:=implF_line [] n v m' (lineL (n,v)++m') hline hn hv (.inl hbl)
 have hll:(lineL (n,v)).length=n.length+1+v.length+2:=by simp[lineL];omega
 rw[List.length_nil,Nat.zero_add,← hll] at hI
 unfold readHead
 rw[rd,if_neg (by omega)]
 have hcr:crlf (lineL (n,v)++m') 0=false:=by
  refine no_crlf _ 0 ?_
  unfold nameOk at hn
  simp only[Bool.and_eq_true] at hn
  cases n with
  | nil=>simp at hn
  | cons c r=>
   have hcb:nb c=true:=List.all_eq_true.1 hn.2.2 c (by simp)
   exact nb_13 c hcb
 rw[if_neg (by rw[hcr];simp),hI]
 simp only[List.length_nil]
 rw[if_neg (by decide),List.nil_append]
 have:=rd_ag [(n,v)] (m.length+1) (lineL (n,v)++m').length 0 [] hag hB (by omega) (Nat.zero_le _) (by omega) hc hBe.symm (by
  change 1+(readHead m).fields.length≤200
  omega)
 rw[Nat.add_zero,List.append_nil] at this
 rw[this]
 rfl
theorem head_bare (m:List UInt8)(hc:(readHead m).code=0):blank (b m 0)=false∨m=[]:=by
 by_cases hm:m=[]
 ·exact .inr hm
 left
 have hm0:0<m.length:=List.length_pos_iff.2 hm
 have hc2:=hc
 unfold readHead at hc2
 rw[rd,if_neg (by omega)] at hc2
 split at hc2
 ·rename_i h1
  obtain⟨h2,h3,-⟩:=(crlf_iff _ _).1 h1
  rw[b_lt m 0 hm0,h3]
  decide
 ·cases hI:implF m 0 with
  | inl p=>rw[hI] at hc2;cases hc2
  | inr y=>
   unfold implF at hI
   split at hI
   ·rename_i hg
    unfold nameGood at hg
    simp only[Bool.and_eq_true] at hg
    have hno:=hg.1
    cases hbb:blank (b m 0)
    ·rfl
    ·exfalso
     have hs:stop nb m 0=0:=stop_eq nb m 0 0 (Nat.le_refl _) (by omega) (fun j h1 h2=>by omega) (fun _=>by
      cases hnb:nb (b m 0)
      ·rfl
      ·rw[nb_blank _ hnb] at hbb;cases hbb)
     rw[hs] at hno
     unfold nameOk sl at hno
     simp at hno
   ·cases hI
section
variable (z m:List UInt8)
theorem stop_sf (K:UInt8→Bool)(k:Nat)(hk:k≤m.length):stop K (z++m) (z.length+k)=z.length+stop K m k:=by
 have h2:=stop_ge K m k hk
 have h3:=stop_le K m k hk
 refine stop_eq K (z++m) (z.length+k) _ (by omega) (by rw[List.length_append];omega) (fun j j1 j2=>?_) (fun hl=>?_)
 ·obtain⟨u,rfl⟩:∃u,j=z.length+u:=⟨j-z.length,by omega⟩
  rw[b_at]
  exact stop_all K m k hk u (by omega) (by omega)
 ·rw[b_at]
  rw[List.length_append] at hl
  exact stop_not K m k hk (by omega)
theorem drop_sf (k:Nat):(z++m).drop (z.length+k)=m.drop k:=by
 rw[List.drop_append,List.drop_eq_nil_of_le (by omega),List.nil_append]
 congr 1
 omega
theorem crlf_sf (k:Nat):crlf (z++m) (z.length+k)=crlf m k:=by rw[← crlf_drop,drop_sf,crlf_drop]
theorem fold_sf (k:Nat):fold (z++m) (z.length+k)=fold m k:=by rw[← fold_drop,drop_sf,fold_drop]
theorem sl_sf (i j:Nat):sl (z++m) (z.length+i) (z.length+j)=sl m i j:=by
 unfold sl
 rw[drop_sf,show z.length+j-(z.length+i)=j-i by omega]
theorem vend_sf:∀(f f' cur beg:Nat),f≤f'→m.length+1≤f+cur→cur≤m.length→vend (z++m) f' (z.length+cur) (z.length+beg)=(z.length+(vend m f cur beg).1,z.length+(vend m f cur beg).2)
 | 0,f',cur,beg,_,hf,hc=>by omega
 | f+1,f',cur,beg,hff,hf,hc=>by
  obtain⟨g,rfl⟩:∃g,f'=g+1:=⟨f'-1,by omega⟩
  have h2:=stop_ge lb m cur hc
  rw[vend,vend,stop_sf z m lb cur hc,fold_sf]
  split
  ·rename_i hfo
   have h3:=fold_in _ _ hfo
   exact vend_sf f g (stop lb m cur+2) (stop lb m cur+2) (by omega) (by omega) (by omega)
  ·rfl
theorem implF_sf (k:Nat)(hk:k<m.length)(n v:List UInt8)(x:Nat)(h:implF m k=.inr (n,v,x)):implF (z++m) (z.length+k)=.inr (n,v,z.length+x):=by
 have hl:(z++m).length=z.length+m.length:=List.length_append
 have p1:=stop_sf z m nb k (by omega)
 have p1':=stop_le nb m k (by omega)
 have p2:=stop_sf z m blank (stop nb m k) p1'
 have hg:nameGood (z++m) (z.length+k)=nameGood m k:=by
  unfold nameGood
  rw[p1,p2,sl_sf,b_at,hl]
  congr 2
  rw[Bool.eq_iff_iff,decide_eq_true_eq,decide_eq_true_eq]
  omega
 unfold implF at h ⊢
 rw[hg]
 split at h
 ·rename_i hg2
  unfold nameGood at hg2
  simp only[Bool.and_eq_true,decide_eq_true_eq] at hg2
  have hva:=vend_sf z m (m.length+1) ((z++m).length+1) (stop blank m (stop nb m k)+1) k (by omega) (by omega) (by omega)
  simp only[p1,p2] at h ⊢
  rw[if_pos (by unfold nameGood;simp only[Bool.and_eq_true,decide_eq_true_eq];exact hg2)]
  rw[show z.length+stop blank m (stop nb m k)+1=z.length+(stop blank m (stop nb m k)+1) by omega,hva]
  simp only
  rw[crlf_sf,sl_sf,hl,sl_sf,sl_sf]
  split at h
  ·rename_i h1
   simp only[Sum.inr.injEq,Prod.mk.injEq] at h
   obtain⟨e1,e2,e3⟩:=h
   rw[if_pos (by omega),e1,e2,e3]
  ·rename_i h1
   rw[if_neg (by omega)]
   split at h
   ·rename_i h2
    simp only[Sum.inr.injEq,Prod.mk.injEq] at h
    obtain⟨e1,e2,e3⟩:=h
    rw[if_pos h2,e1,e2,← e3]
    rfl
   ·cases h
 ·cases h
theorem rd_sf (fs0:List Fl):∀(g g' k:Nat)(fs:List Fl),g≤g'→k≤m.length→m.length+1≤g+k→(rd m g k fs).code=0→fs0.length+(rd m g k fs).fields.length≤200 →
  rd (z++m) g' (z.length+k) (fs0++fs)=⟨0,0,z.length+(rd m g k fs).body,fs0++(rd m g k fs).fields⟩
 | 0,g',k,fs,_,hk,hg,_,_=>by omega
 | g+1,g',k,fs,hgg,hk,hg,hc,hl=>by
  obtain⟨u,rfl⟩:∃u,g'=u+1:=⟨g'-1,by omega⟩
  have h0:(z++m).length=z.length+m.length:=List.length_append
  rw[rd] at hc hl ⊢
  rw[rd]
  split at hc
  ·rename_i h1
   rw[if_pos h1,if_pos (by omega),h0]
  ·rename_i h1
   rw[if_neg h1] at hl ⊢
   rw[if_neg (show ¬(z++m).length≤z.length+k by omega),crlf_sf]
   split at hc
   ·rename_i h2
    rw[if_pos h2,if_pos h2,Nat.add_assoc]
   ·rename_i h2
    rw[if_neg h2] at hl ⊢
    rw[if_neg h2]
    cases hI:implF m k with
    | inl p=>rw[hI] at hc;cases hc
    | inr y=>
     obtain⟨n,v,x⟩:=y
     rw[hI] at hc hl
     simp only at hc hl ⊢
     split at hc
     ·cases hc
     ·rename_i h3
      rw[if_neg h3] at hl ⊢
      obtain⟨hx,hxl⟩:=field_next m k x n v (by omega) hI
      obtain⟨i1,i2⟩:=rd_ge m g x (fs ++ [(n,v)]) hxl (by omega) hc
      rw[List.length_append,List.length_singleton] at i1
      rw[implF_sf z m k (by omega) n v x hI]
      simp only
      rw[if_neg (by rw[List.length_append];omega),List.append_assoc]
      exact rd_sf fs0 g u x (fs ++ [(n,v)]) (by omega) hxl (by omega) hc hl
end
theorem readHead_sf (n v:List UInt8)(m:List UInt8)(hn:nameOk n=true)(hv:val v=true)(hc:(readHead m).code=0)(hf:(readHead m).fields.length<200) :
  readHead (lineL (n,v)++m)=⟨0,0,(lineL (n,v)).length+(readHead m).body,(n,v)::(readHead m).fields⟩:=by
 have hline:lineL (n,v)++m=[]++(n++(58::(v++(13::10::m)))):=by simp[lineL]
 have hI:=implF_line [] n v m (lineL (n,v)++m) hline hn hv (head_bare m hc)
 have hll:(lineL (n,v)).length=n.length+1+v.length+2:=by simp[lineL];omega
 rw[List.length_nil,Nat.zero_add,← hll] at hI
 have hLl:(lineL (n,v)++m).length=(lineL (n,v)).length+m.length:=List.length_append
 unfold readHead
 rw[rd,if_neg (by omega)]
 have hcr:crlf (lineL (n,v)++m) 0=false:=by
  refine no_crlf _ 0 ?_
  unfold nameOk at hn
  simp only[Bool.and_eq_true] at hn
  cases n with
  | nil=>simp at hn
  | cons c r=>exact nb_13 c (List.all_eq_true.1 hn.2.2 c (by simp))
 rw[if_neg (by rw[hcr];simp),hI]
 simp only[List.length_nil]
 rw[if_neg (by decide),List.nil_append]
 have:=rd_sf (lineL (n,v)) m [(n,v)] (m.length+1) (lineL (n,v)++m).length 0 [] (by omega) (Nat.zero_le _) (by omega) hc (by
  change 1+(readHead m).fields.length≤200
  omega)
 rw[Nat.add_zero,List.append_nil] at this
 rw[this]
 rfl
end Pl
namespace Pl
open Go.Lib
def crs:List UInt8:=[13,10]
def linesF:Nat→List UInt8→List (List UInt8)
 | 0,_=>[]
 | f+1,l=>if l=[] then [] else (cut l crs).1::linesF f (cut l crs).2.1
def lines (l:List UInt8):List (List UInt8):=linesF l.length l
theorem cut_rest (l:List UInt8)(h:l ≠ []):(cut l crs).2.1.length<l.length:=by
 have h0:0<l.length:=List.length_pos_iff.2 h
 unfold cut
 split
 ·simp[crs];omega
 ·simpa using h0
theorem cut_fst (l:List UInt8):(cut l crs).1.length≤l.length:=by
 unfold cut
 split
 ·rw[List.length_take];omega
 ·exact Nat.le_refl _
theorem linesF_more:∀(f:Nat)(l:List UInt8),l.length≤f→linesF (f+1) l=linesF f l:=by
 intro f
 induction f with
 | zero=>intro l h;have:l=[]:=List.length_eq_zero_iff.1 (by omega);subst this;rfl
 | succ f ih=>
  intro l h
  by_cases hl:l=[]
  ·subst hl;rfl
  ·have e:=ih (cut l crs).2.1 (by have:=cut_rest l hl;omega)
   show(if l=[] then [] else (cut l crs).1::linesF (f+1) (cut l crs).2.1)=(if l=[] then [] else (cut l crs).1::linesF f (cut l crs).2.1)
   rw[e]
theorem linesF_all (f:Nat)(l:List UInt8)(h:l.length≤f):linesF f l=lines l:=by
 induction f with
 | zero=>rw[lines,show l.length=0 by omega]
 | succ f ih=>
  by_cases hl:l.length=f+1
  ·rw[lines,hl]
  ·rw[linesF_more f l (by omega),ih (by omega)]
theorem lines_nil:lines []=[]:=rfl
theorem lines_step (l:List UInt8)(h:l ≠ []):lines l=(cut l crs).1::lines (cut l crs).2.1:=by
 have h1:=cut_rest l h
 obtain⟨n,hn⟩:∃n,l.length=n+1:=⟨l.length-1,by omega⟩
 rw[lines,hn,linesF,if_neg h,linesF_all n _ (by omega)]
theorem occ_crlf (l:List UInt8)(k:Nat):occAt l crs k=crlf l k:=by
 unfold occAt crlf crs
 match l.drop k with
 | []=>rfl
 | [a]=>simp[List.isPrefixOf]
 | a::b::r=>
  rw[Bool.eq_iff_iff]
  simp only[List.isPrefixOf,Bool.and_true,Bool.and_eq_true,beq_iff_eq,List.take_succ_cons,List.take_zero,List.cons.injEq,and_true]
  exact⟨fun h=>⟨h.1.symm,h.2.symm⟩,fun h=>⟨h.1.symm,h.2.symm⟩⟩
def NoCr (l:List UInt8)(n:Nat):Prop:=∀j,j<n→crlf l j=false
theorem NoCr.zero (l:List UInt8):NoCr l 0:=fun _ h=>absurd h (Nat.not_lt_zero _)
theorem NoCr.succ {l:List UInt8} {n:Nat} (h:NoCr l n)(h1:crlf l n=false):NoCr l (n+1):=fun j hj=>by
 by_cases e:j=n
 ·subst e;exact h1
 ·exact h j (by omega)
theorem NoCr.noOcc {l:List UInt8} {n:Nat} (h:NoCr l n):NoOcc l crs n:=fun j hj=>by rw[occ_crlf];exact h j hj
theorem cut_hit (l:List UInt8)(i:Nat)(h:NoCr l i)(h1:crlf l i=true):cut l crs=(l.take i,l.drop (i+2),true):=by
 have hi:i≤l.length:=by obtain⟨h,-⟩:=(crlf_iff l i).1 h1;omega
 have e:index l crs=i:=index_hit h.noOcc hi (by rw[occ_crlf];exact h1)
 unfold cut
 rw[e,if_pos (by omega)]
 rfl
theorem cut_miss (l:List UInt8)(h:NoCr l l.length):cut l crs=(l,[],false):=by
 have e:index l crs = -1:=index_none fun j hj=>by
  rw[occ_crlf]
  by_cases hj':j<l.length
  ·exact h j hj'
  ·exact crlf_short l j (by omega)
 unfold cut
 rw[e,if_neg (by decide)]
theorem crlf_dropJ (l:List UInt8)(a j:Nat):crlf (l.drop a) j=crlf l (a+j):=by
 unfold crlf
 rw[List.drop_drop]
end Pl
namespace Pl
open Go.Lib
theorem ext_mk (s:ByteArray)(a b:Nat):s.extract a b=⟨((s.data.toList.drop a).take (b-a)).toArray⟩:=by
 apply ByteArray.ext
 apply Array.toList_inj.1
 rw[ext_data]
theorem line_hit (l:List UInt8)(a k:Nat)(ps:List (List UInt8))(hak:a≤k)(h:NoCr (l.drop a) (k-a))(h1:crlf l k=true)(hp:ps++lines (l.drop a)=lines l) :
  (ps ++ [(l.drop a).take (k-a)])++lines (l.drop (k+2))=lines l:=by
 obtain⟨hk,-⟩:=(crlf_iff l k).1 h1
 have hne:l.drop a ≠ []:=by
  intro e
  have:=congrArg List.length e
  simp at this
  omega
 rw[lines_step _ hne,cut_hit (l.drop a) (k-a) h (by rw[crlf_dropJ,show a+(k-a)=k by omega];exact h1)] at hp
 simp only[List.drop_drop] at hp
 rw[show a+(k-a+2)=k+2 by omega] at hp
 rw[← hp]
 simp
theorem line_last (l:List UInt8)(a k:Nat)(ps:List (List UInt8))(hak:a<l.length)(hk:l.length≤k)(h:NoCr (l.drop a) (k-a))(hp:ps++lines (l.drop a)=lines l) :
  ps ++ [l.drop a]=lines l:=by
 have hne:l.drop a ≠ []:=by
  intro e
  have:=congrArg List.length e
  simp at this
  omega
 rw[lines_step _ hne,cut_miss (l.drop a) (fun j hj=>h j (by simp at hj;omega)),lines_nil] at hp
 exact hp
theorem line_none (l:List UInt8)(a:Nat)(ps:List (List UInt8))(ha:l.length≤a)(hp:ps++lines (l.drop a)=lines l):ps=lines l:=by
 rw[List.drop_eq_nil_of_le ha,lines_nil] at hp
 simpa using hp
theorem noCr_next (l:List UInt8)(a k:Nat)(hak:a≤k)(h:NoCr (l.drop a) (k-a))(h1:crlf l k=false):NoCr (l.drop a) (k+1-a):=by
 rw[show k+1-a=k-a+1 by omega]
 exact h.succ (by rw[crlf_dropJ,show a+(k-a)=k by omega];exact h1)
theorem crlf_no13 (l:List UInt8)(k:Nat)(h:k<l.length)(h1:l[k]≠13):crlf l k=false:=by
 rw[Bool.eq_false_iff];intro e
 obtain⟨h,h0,-⟩:=(crlf_iff _ _).1 e
 exact h1 h0
theorem crlf_no10 (l:List UInt8)(k:Nat)(h:k+1<l.length)(h1:l[k+1]≠10):crlf l k=false:=by
 rw[Bool.eq_false_iff];intro e
 obtain⟨h,-,h0⟩:=(crlf_iff _ _).1 e
 exact h1 h0
end Pl
open Go.RowKit Go.Lib
def txtL (l:List UInt8):Value:=.string ⟨l.toArray⟩
def OwnS (B:Nat)(v:Value)(ps:List (List UInt8))(w:World):Prop:=w.ownsRow B 9 1 v ps.length (ps.map txtL)
theorem OwnS.nil (B:Nat)(w:World):OwnS B (.slice none 0 0) [] w:=World.ownsRow_nil _ _ _ _
theorem OwnS.made (B:Nat)(w:World)(h:B≤w.heap.size):OwnS B (.slice (some ⟨w.heap.size,0,none⟩) 0 0) [] (w.alloc (.cells #[] 9)):=
 World.ownsRow_made w #[] 0 h (by unfold maxLen;omega) rfl
theorem OwnS.form {B:Nat} {v:Value} {ps:List (List UInt8)} {w:World} (h:OwnS B v ps w):(v=.slice none 0 0∧ps=[])∨∃ g cap,v=.slice (some ⟨g,0,none⟩) ps.length cap∧B≤g∧g<w.heap.size∧ps.length≤cap:=by
 have hl:=World.ownsRow.lt h
 rcases h.2 with ⟨rfl,h0⟩|⟨g,cap,cur,rfl,hB,-,hc,-⟩
 ·exact .inl ⟨rfl,List.length_eq_zero_iff.1 h0⟩
 ·exact .inr ⟨g,cap,rfl,hB,(hl g rfl).2,hc⟩
theorem OwnS.cell {B g cap n:Nat} {ps:List (List UInt8)} {w:World} (h:OwnS B (.slice (some ⟨g,0,none⟩) n cap) ps w)(j:Nat)(hj:j<ps.length) :
  w.cell? ⟨g,j,none⟩=some (txtL ps[j]):=by
 have:=World.ownsRow.cells h (g:=g) rfl j (txtL ps[j]) (by simp[hj])
 rwa [add_off] at this
theorem OwnS.keep {B C:Nat} {v:Value} {ps:List (List UInt8)} {w w':World} (h:OwnS B v ps w)(hC:w.heap.size≤C)(hb:Below C w w'):OwnS B v ps w':=by
 refine⟨h.1,?_⟩
 rcases h.2 with h|⟨g,cap,cur,h1,h2,h3,h4⟩
 ·exact .inl h
 ·refine .inr ⟨g,cap,cur,h1,h2,?_,h4⟩
  have hg:g<w.heap.size:=by
   by_cases hg:g<w.heap.size
   ·exact hg
   ·rw[Array.getElem?_eq_none (by omega)] at h3;cases h3
  rw[hb.block g (by omega),h3]
theorem wp_appS {P:Program} {W w:World} {ops:Array Oper} {rest:List Oper} {o:Oper} {a:Act} {Q:Exit→Act→World→Prop} (hgd:o.guard=none)(s x:Operand)(t:TypeId)
  (ho:o.op=.call { callee:=.builtin .append,args:=#[s,x],argTypes:=#[t,t] })
  (i:TypeInfo) (ht:P.underlying t=some (.slice 9)) (hi:P.info? 9=some i) (hz:i.zero=some (.string ByteArray.empty)) (hsize:i.size=1) (hby:i.bytes=16)
  (B:Nat) (v:Value) (p:List (List UInt8)) (hs:a.eval s=v) (hown:OwnS B v p w) (u:ByteArray) (new:List UInt8) (hu:u=⟨new.toArray⟩)
  (hx:a.eval x=.slice (some ⟨w.heap.size,0,none⟩) 1 1) (hlen:p.length≤8000000000) (hB:B≤W.heap.size) (hb:Below B W w)
  (h:∀v' w',OwnS B v' (p ++ [new]) w'→Below B W w'→wpList P ops Q rest (a.put o.dst v') w'):wpList P ops Q (o::rest) a (w.alloc (.cells #[.string u] 9)):=by
 subst hu
 have hsz:=hb.size
 refine wpList_append_own _ hgd s x t ho B 9 i (.string ByteArray.empty) 1 16 ht hi hz hsize hby rfl (by decide) v p.length (p.map txtL) hs (hown.alloc _) ⟨w.heap.size,0,none⟩ 1 1 [txtL new] hx
  rfl ?_ ?_ (by unfold maxLen;omega) (by omega) (by simp;omega) ?_
 ·intro j u hj
  match j,hj with
  | 0,hj=>simp at hj;subst hj;simp[Addr.add,txtL]
 ·intro u hu
  simp at hu
  subst hu
  rfl
 ·intro v' w' h1 h2 _
  refine h v' w' ?_ ?_
  ·unfold OwnS
   rw[List.map_append,List.length_append]
   exact h1
  ·exact(hb.alloc (by omega) _).grown h2 (by simp;omega) (fun k hk=>(World.ownsRow.lt hown k hk).1)
theorem Tryz.info9:(Tryz.prog.info? 9).map (fun i=>(i.zero,i.size,i.bytes))=some (some (.string ByteArray.empty),1,16):=by kernel_rfl
theorem specLines (s:ByteArray)(w:World)(hs:s.size≤100000) :
  Calls Tryz.prog 38 #[.string s] w fun e w'=>∃ v,e=.returned v∧OwnS w.heap.size v (Pl.lines s.data.toList) w'∧Below w.heap.size w w':=by
 obtain⟨i0,hi,hz0,hz1,hz2⟩:=info_parts Tryz.info9
 have hc0:decide ((100000:Int)<(s.size:Int))=false:=by simp;omega
 go_enter Tryz.func38,Tryz.ntmps38
 go_wp2
 go_loopw [3,4,5] (fun v f i wr=>∃ (a k:Nat) (ps:List (List UInt8)),a≤k∧k≤s.size∧f=.int .i64 a∧i=.int .i64 k∧ps.length≤k∧Hid (ps++Pl.lines (s.data.toList.drop a)=Pl.lines s.data.toList)∧Pl.NoCr (s.data.toList.drop a) (k-a)∧OwnS w.heap.size v ps wr∧Below w.heap.size w wr) (fun _ _ i _=>s.size-(RowKit.intOf i).toNat)
 case atStart=>exact⟨0,0,[],Nat.le_refl _,Nat.zero_le _,rfl,rfl,by simp,rfl,Pl.NoCr.zero _,OwnS.made _ _ (Nat.le_refl _),(Below.refl _ _).alloc (Nat.le_refl _) _⟩
 case round=>
  obtain⟨a,k,ps,hak,hk,rfl,rfl,hpl,hp,hno,hown,hb⟩:=hrel
  have hno:=hno
  by_cases hlt:k<s.size
  ·have h8:s[k].toNat<256:=UInt8.toNat_lt _
   by_cases h13:((s[k].toNat:Int)==13)=true
   ·by_cases hk1:k+1<s.size
    ·have hk1':decide ((k:Int)+1<(s.size:Int))=true:=by simp;omega
     by_cases h10:((s[k+1].toNat:Int)==10)=true
     ·have hcr:Hid (Pl.crlf s.data.toList k=true):=(Pl.crlf_iff _ _).2 ⟨by simpa using hk1,Pl.byte_eq _ 13 _ rfl h13,Pl.byte_eq _ 10 _ rfl h10⟩
      go_wp2_with (at_builtin;go_must (refine wp_appS (W:=w) rfl _ _ 25 rfl i0 Tryz.underlying25 hi hz0 hz1 hz2 w.heap.size u3 ps rfl hown _ _ (Pl.ext_mk s a k) rfl (by omega) (Nat.le_refl _) hb ?_;intro v' w' hown' hb'))
      go_roundw
      case rel=>exact⟨k+2,k+2,_,Nat.le_refl _,by omega,by go_num,by go_num,by simp;omega,Pl.line_hit _ a k ps hak hno hcr.out hp,by rw[Nat.sub_self];exact Pl.NoCr.zero _,hown',hb'⟩
      case measure=>simp[RowKit.intOf];omega
     ·rw[Bool.not_eq_true] at h10
      have hcr:Hid (Pl.crlf s.data.toList k=false):=Pl.crlf_no10 _ _ (by simpa using hk1) (Pl.byte_ne _ 10 _ rfl h10)
      go_wp2
      go_roundw
      case rel=>exact⟨a,k+1,ps,by omega,by omega,rfl,by go_num,by omega,hp,Pl.noCr_next _ a k hak hno hcr.out,hown,hb⟩
      case measure=>simp[RowKit.intOf];omega
    ·have hk1':decide ((k:Int)+1<(s.size:Int))=false:=by simp;omega
     have hcr:Hid (Pl.crlf s.data.toList k=false):=Pl.crlf_short _ _ (by simp;omega)
     go_wp2
     go_roundw
     case rel=>exact⟨a,k+1,ps,by omega,by omega,rfl,by go_num,by omega,hp,Pl.noCr_next _ a k hak hno hcr.out,hown,hb⟩
     case measure=>simp[RowKit.intOf];omega
   ·rw[Bool.not_eq_true] at h13
    have hcr:Hid (Pl.crlf s.data.toList k=false):=Pl.crlf_no13 _ _ (by simpa using hlt) (Pl.byte_ne _ 13 _ rfl h13)
    go_wp2
    go_roundw
    case rel=>exact⟨a,k+1,ps,by omega,by omega,rfl,by go_num,by omega,hp,Pl.noCr_next _ a k hak hno hcr.out,hown,hb⟩
    case measure=>simp[RowKit.intOf];omega
  ·by_cases ha:a<s.size
   ·have hla:Hid (ps ++ [s.data.toList.drop a]=Pl.lines s.data.toList):=Pl.line_last _ a k ps (by simpa using ha) (by simp;omega) hno hp
    have hx:s.extract a s.size=⟨(s.data.toList.drop a).toArray⟩:=by rw[Pl.ext_mk,List.take_of_length_le (by simp)]
    have hX:Hid (s.extract a s.size=⟨(s.data.toList.drop a).toArray⟩):=hx
    clear hx hp
    go_wp2_with (at_builtin;go_must (refine wp_appS (W:=w) rfl _ _ 25 rfl i0 Tryz.underlying25 hi hz0 hz1 hz2 w.heap.size u3 ps rfl hown _ _ hX.out rfl (by omega) (Nat.le_refl _) hb ?_;intro v' w' hown' hb'))
    go_ret
    rw[hla.out] at hown'
    exact⟨_,rfl,hown',hb'⟩
   ·have hla:Hid (ps=Pl.lines s.data.toList):=Pl.line_none _ a ps (by simp;omega) hp
    clear hp
    go_wp2
    go_ret
    rw[hla.out] at hown
    exact⟨_,rfl,hown,hb⟩
theorem libCut (r a b:List UInt8)(c:Bool)(hcut:cut r Pl.crs=(a,b,c))(m:Int)(w:World)(hr:r.length≤100000)(hm:w.cell? ⟨0,0,none⟩=some (.int .i64 m)) :
  Calls Tryz.prog 100 #[.string ⟨r.toArray⟩,.string ⟨#[13,10]⟩] w fun e w'=>e=.returned (.tuple #[.string ⟨a.toArray⟩,.string ⟨b.toArray⟩,.bool c])∧Below w.heap.size w w':=by
 refine(Tryz.strings_Cut ⟨r.toArray⟩ ⟨#[13,10]⟩ m w (by simp[ByteArray.size];omega) hm).mono ?_
 rintro e w' ⟨rfl,n,rfl⟩
 have e1:cut (⟨r.toArray⟩:ByteArray).data.toList (⟨#[13,10]⟩:ByteArray).data.toList=(a,b,c):=hcut
 rw[e1]
 exact⟨rfl,Go.below_drewN (Below.refl _ _) n⟩
theorem libCloneL (s:ByteArray)(w:World)(hs:s.size≤100000) :
  Calls Tryz.prog 101 #[.string s] w fun e w'=>e=.returned (.string s)∧Below w.heap.size w w':=by
 go_enter Tryz.func101,Tryz.ntmps101
 go_wp2_with fail
 refine(Tryz.stringslite_Clone s _ (by omega)).mono ?_
 rintro e w1 ⟨rfl,hb1⟩
 go_wp2
 go_ret
 exact⟨rfl,hb1⟩
def strLenL:Value→Nat
 | .string b=>b.size
 | _=>0
theorem strLen_mkL (l:List UInt8):strLenL (.string ⟨l.toArray⟩)=l.length:=by
 show l.toArray.size=l.length
 simp
theorem zero_ltL {w:World} {x:Value} (h:w.cell? ⟨0,0,none⟩=some x):0<w.heap.size:=by
 by_cases hz:0<w.heap.size
 ·exact hz
 ·have:w.heap[0]?=none:=Array.getElem?_eq_none (by omega)
  simp[World.cell?,this] at h
theorem implLines (s:ByteArray)(m:Int)(w:World)(hs:s.size≤100000)(hm:w.cell? ⟨0,0,none⟩=some (.int .i64 m)) :
  Calls Tryz.prog 58 #[.string s] w fun e w'=>∃ v,e=.returned v∧OwnS w.heap.size v (Pl.lines s.data.toList) w'∧Below w.heap.size w w':=by
 obtain⟨i0,hi,hz0,hz1,hz2⟩:=info_parts Tryz.info9
 have hc0:decide ((100000:Int)<(s.size:Int))=false:=by simp;omega
 have h0:=zero_ltL hm
 go_enter Tryz.func58,Tryz.ntmps58
 go_wp2
 go_loopw [0,3] (fun t v wr=>∃ (r:List UInt8) (ps:List (List UInt8)),t=.string ⟨r.toArray⟩∧ps.length+r.length≤s.size∧Hid (ps++Pl.lines r=Pl.lines s.data.toList)∧OwnS w.heap.size v ps wr∧Below w.heap.size w wr) (fun t _ _=>strLenL t)
 case atStart=>exact⟨s.data.toList,[],rfl,by simp,rfl,OwnS.nil _ _,Below.refl _ _⟩
 case round=>
  obtain⟨r,ps,rfl,hpl,hp,hown,hb⟩:=hrel
  have hmr:wr.cell? ⟨0,0,none⟩=some (.int .i64 m):=(hb.cell (p:=⟨0,0,none⟩) h0).trans hm
  have hszr:=hb.size
  by_cases hr:r=[]
  ·subst hr
   have hla:Hid (ps=Pl.lines s.data.toList):=by rw[Pl.lines_nil] at hp;simpa [Hid] using hp
   clear hp
   go_wp2
   go_ret
   rw[hla.out] at hown
   exact⟨_,rfl,hown,hb⟩
  ·have hre:r.isEmpty=false:=by simpa using hr
   obtain⟨x,y,c,hcut⟩:∃x y c,cut r Pl.crs=(x,y,c):=⟨_,_,_,rfl⟩
   have hst:=Pl.lines_step r hr
   have hrest:=Pl.cut_rest r hr
   have hfst:x.length≤r.length:=by
    have:=Pl.cut_fst r
    rw[hcut] at this;exact this
   rw[hcut] at hst hrest
   simp only at hst hrest
   have hp2:Hid ((ps ++ [x])++Pl.lines y=Pl.lines s.data.toList):=by have:=hp.out;rw[hst] at this;simpa [Hid] using this
   clear hst hp
   go_wp2_with fail
   refine(libCut r x y c hcut m _ (by omega) hmr).mono ?_
   rintro e w1 ⟨rfl,hb1⟩
   clear hcut
   go_wp2_with fail
   refine(libCloneL ⟨x.toArray⟩ _ (by simp[ByteArray.size];omega)).mono ?_
   rintro e w2 ⟨rfl,hb2⟩
   have hb12:Below wr.heap.size wr w2:=hb1.trans (hb2.mono hb1.size)
   have hown2:=hown.keep (Nat.le_refl _) hb12
   have hbw:Below w.heap.size w w2:=hb.trans (hb12.mono hszr)
   clear hown hb1 hb2 hb12 hb
   go_wp2_with (at_builtin;go_must (refine wp_appS (W:=w) rfl _ _ 25 rfl i0 Tryz.underlying25 hi hz0 hz1 hz2 w.heap.size u3 ps rfl hown2 _ x rfl rfl (by omega) (Nat.le_refl _) hbw ?_;intro v' w' hown' hb'))
   go_roundw
   case rel=>(repeat apply Exists.intro);exact⟨⟨y,_,rfl,by simp;omega,hp2,hown',hb'⟩,rfl⟩
   case measure=>simp[strLen_mkL];omega
namespace Pl
def rn:Bool→List UInt8→List UInt8
 | _,[]=>[]
 | sp,c::r=>if blank c then (if sp then rn true r else 32::rn true r) else c::rn false r
def lastSp (p:List UInt8):Bool:=p.getLast?==some 32
def bareEnd (p:List UInt8):List UInt8:=if lastSp p then p.dropLast else p
def runs (l:List UInt8):List UInt8:=bareEnd (rn false l)
theorem last_snoc (p:List UInt8)(c:UInt8):lastSp (p ++ [c])=(c==32):=by
 unfold lastSp
 rw[List.getLast?_append,List.getLast?_singleton]
 simp
theorem rn_skip (l p X:List UInt8)(k:Nat)(hk:k<l.length)(hb:blank l[k]=true)(hs:lastSp p=true)(h:Hid (p++rn (lastSp p) (l.drop k)=X)):Hid (p++rn (lastSp p) (l.drop (k+1))=X):=by
 have h:=h.out
 rw[List.drop_eq_getElem_cons hk,rn,if_pos hb,hs,if_pos rfl] at h
 rw[hs]
 exact h
theorem rn_space (l p X:List UInt8)(k:Nat)(hk:k<l.length)(hb:blank l[k]=true)(hs:lastSp p=false)(h:Hid (p++rn (lastSp p) (l.drop k)=X)):Hid ((p ++ [32])++rn (lastSp (p ++ [32])) (l.drop (k+1))=X):=by
 have h:=h.out
 rw[List.drop_eq_getElem_cons hk,rn,if_pos hb,hs,if_neg (by simp)] at h
 show _=_
 rw[last_snoc,show((32:UInt8)==32)=true from rfl,← h]
 simp
theorem rn_byte (l p X:List UInt8)(k:Nat)(hk:k<l.length)(hb:blank l[k]=false)(h:Hid (p++rn (lastSp p) (l.drop k)=X)):Hid ((p ++ [l[k]])++rn (lastSp (p ++ [l[k]])) (l.drop (k+1))=X):=by
 have h:=h.out
 rw[List.drop_eq_getElem_cons hk,rn,if_neg (by rw[hb];simp)] at h
 have h32:(l[k]==32)=false:=by
  unfold blank at hb
  rw[Bool.or_eq_false_iff] at hb
  exact hb.1
 show _=_
 rw[last_snoc,h32,← h]
 simp
theorem rn_end (l p X:List UInt8)(k:Nat)(hk:l.length≤k)(h:Hid (p++rn (lastSp p) (l.drop k)=X)):p=X:=by
 have h:=h.out
 rw[List.drop_eq_nil_of_le hk,rn,List.append_nil] at h
 exact h
theorem last_get (p:List UInt8)(h:0<p.length):lastSp p=(p[p.length-1]==32):=by
 unfold lastSp
 rw[List.getLast?_eq_getElem?,List.getElem?_eq_getElem (by omega)]
 rfl
end Pl
theorem Own.cut {B g n cap:Nat} {p:List UInt8} {w:World} (h:Own B (.slice (some ⟨g,0,none⟩) n cap) p w)(k:Nat)(hk:k≤p.length):Own B (.slice (some ⟨g,0,none⟩) k cap) (p.take k) w:=by
 obtain⟨h1,h2⟩:=h
 have hl:(p.take k).length=k:=by rw[List.length_take];omega
 refine⟨by rw[byteCells_length,Nat.mul_one],.inr ?_⟩
 rcases h2 with ⟨h2,-⟩|⟨g',cap',cur,e1,e2,e3,e4,e5,e6,e7⟩
 ·cases h2
 ·have e8:=e1
  cases e8
  refine⟨g,cap,cur,by rw[hl],e2,e3,by omega,e5,e6,?_⟩
  rw[hl,Nat.mul_one]
  have e9:cur.toList.take p.length=byteCells p:=by rw[← e7,Nat.mul_one]
  have e10:=congrArg (List.take k) e9
  rw[List.take_take,Nat.min_eq_left hk] at e10
  rw[e10]
  simp[byteCells,List.map_take]
set_option maxRecDepth 10000 in
theorem specRuns (s:ByteArray)(w:World)(hs:s.size≤100000) :
  Calls Tryz.prog 39 #[.string s] w fun e w'=>e=.returned (.string ⟨(Pl.runs s.data.toList).toArray⟩)∧Below w.heap.size w w':=by
 obtain⟨i0,hi,hy0,hy1,hy2⟩:=info_parts Tryz.info5
 obtain⟨X,hX⟩:∃X,Pl.rn false s.data.toList=X:=⟨_,rfl⟩
 have HX:Hid (([]:List UInt8)++Pl.rn (Pl.lastSp []) (s.data.toList.drop 0)=X):=hX
 have hR:Pl.runs s.data.toList=Pl.bareEnd X:=by unfold Pl.runs;rw[hX]
 rw[hR]
 clear hX hR
 have Hown0:Hid (Own w.heap.size (.slice (some ⟨w.heap.size,0,none⟩) 0 0) [] (w.alloc (.cells #[] 5))):=Own.made w.heap.size w (Nat.le_refl _)
 go_enter Tryz.func39,Tryz.ntmps39
 go_wp2
 go_loopw [3,4] (fun v i wr=>∃ (k:Nat) (p:List UInt8),k≤s.size∧i=.int .i64 k∧p.length≤k∧Hid (p++Pl.rn (Pl.lastSp p) (s.data.toList.drop k)=X)∧Own w.heap.size v p wr∧Below w.heap.size w wr) (fun _ i _=>s.size-(Lib.intOf i).toNat)
 case atStart=>exact⟨0,[],Nat.zero_le _,rfl,by simp,HX,Hown0.out,(Below.refl _ _).alloc (Nat.le_refl _) _⟩
 case round=>
  clear HX Hown0
  obtain⟨k,p,hk,rfl,hpl,hp,hown,hb⟩:=hrel
  by_cases hlt:k<s.size
  ·have hll:k<s.data.toList.length:=by simpa using hlt
   have hB:=specBlank s[k]
   have h8:s[k].toNat<256:=UInt8.toNat_lt _
   cases hbl:Pl.blank s[k]
   ·have Hn:Hid ((p ++ [s[k]])++Pl.rn (Pl.lastSp (p ++ [s[k]])) (s.data.toList.drop (k+1))=X):=Pl.rn_byte s.data.toList p X k hll hbl hp
    rw[hbl] at hB
    clear hp hbl
    go_wp2_with fail
    refine(hB _).mono ?_
    rintro e w2 ⟨rfl,rfl⟩
    go_wp2_with (at_builtin;go_must (refine wp_app (W:=w) rfl _ _ 22 rfl i0 Tryz.underlying22 hi hy0 hy1 hy2 w.heap.size u3 p rfl hown _ [s[k]] rfl 1 1 rfl rfl (by simp;omega) (Nat.le_refl _) hb ?_;intro v' w' hown' hb'))
    go_roundw
    case rel=>exact⟨k+1,_,by omega,by go_num,(by first|(simp;done)|(simp;omega)),Hn,hown',hb'⟩
    case measure=>simp[Lib.intOf];omega
   ·rw[hbl] at hB
    by_cases h0:p.length=0
    ·obtain rfl:p=[]:=List.length_eq_zero_iff.1 h0
     have Hn:Hid (([] ++ [32])++Pl.rn (Pl.lastSp ([] ++ [32])) (s.data.toList.drop (k+1))=X):=Pl.rn_space s.data.toList [] X k hll hbl rfl hp
     clear hp hbl h0
     rcases hown.form with ⟨rfl,-⟩|⟨g,cap,rfl⟩
     ·go_wp2_with fail
      refine(hB _).mono ?_
      rintro e w2 ⟨rfl,rfl⟩
      go_wp2_with (at_builtin;go_must (refine wp_app (W:=w) rfl _ _ 22 rfl i0 Tryz.underlying22 hi hy0 hy1 hy2 w.heap.size (.slice none 0 0) [] rfl hown _ [32] rfl 1 1 rfl rfl (by first|(simp;done)|(simp;omega)) (Nat.le_refl _) hb ?_;intro v' w' hown' hb'))
      go_roundw
      case rel=>exact⟨k+1,_,by omega,by go_num,(by first|(simp;done)|(simp;omega)),Hn,hown',hb'⟩
      case measure=>simp[Lib.intOf];omega
     ·go_wp2_with fail
      refine(hB _).mono ?_
      rintro e w2 ⟨rfl,rfl⟩
      go_wp2_with (at_builtin;go_must (refine wp_app (W:=w) rfl _ _ 22 rfl i0 Tryz.underlying22 hi hy0 hy1 hy2 w.heap.size (.slice (some ⟨g,0,none⟩) 0 cap) [] rfl hown _ [32] rfl 1 1 rfl rfl (by first|(simp;done)|(simp;omega)) (Nat.le_refl _) hb ?_;intro v' w' hown' hb'))
      go_roundw
      case rel=>exact⟨k+1,_,by omega,by go_num,(by first|(simp;done)|(simp;omega)),Hn,hown',hb'⟩
      case measure=>simp[Lib.intOf];omega
    ·rcases hown.form with ⟨-,hnil⟩|⟨g,cap,rfl⟩
     ·rw[hnil] at h0;exact absurd rfl h0
     ·obtain⟨m,hm⟩:∃m,p.length=m+1:=⟨p.length-1,by omega⟩
      have hml:m<p.length:=by omega
      have hc:=hown.cell m hml
      have hidx:(p.length:Int)-1=(m:Int):=by omega
      have hn0:((p.length:Int)==0)=false:=beq_eq_false_iff_ne.2 (by omega)
      have hlast:Pl.lastSp p=(p[m]==32):=by
       rw[Pl.last_get p (by omega)]
       congr 2
       omega
      cases h32:((p[m].toNat:Int)==32)
      ·have hne:((p[m].toNat:Int) != 32)=true:=by rw[bne,h32];rfl
       have hls:Pl.lastSp p=false:=by rw[hlast];exact beq_eq_false_iff_ne.2 (Pl.byte_ne _ 32 _ rfl h32)
       have Hn:Hid ((p ++ [32])++Pl.rn (Pl.lastSp (p ++ [32])) (s.data.toList.drop (k+1))=X):=Pl.rn_space s.data.toList p X k hll hbl hls hp
       clear hp hbl hlast hls hm
       generalize p[m]=pc at *
       go_wp2_with fail
       refine(hB _).mono ?_
       rintro e w2 ⟨rfl,rfl⟩
       go_wp2_with (at_builtin;go_must (refine wp_app (W:=w) rfl _ _ 22 rfl i0 Tryz.underlying22 hi hy0 hy1 hy2 w.heap.size (.slice (some ⟨g,0,none⟩) p.length cap) p rfl hown _ [32] rfl 1 1 rfl rfl (by first|(simp;done)|(simp;omega)) (Nat.le_refl _) hb ?_;intro v' w' hown' hb'))
       go_roundw
       case rel=>exact⟨k+1,_,by omega,by go_num,(by first|(simp;done)|(simp;omega)),Hn,hown',hb'⟩
       case measure=>simp[Lib.intOf];omega
      ·have hne:((p[m].toNat:Int) != 32)=false:=by rw[bne,h32];rfl
       have hls:Pl.lastSp p=true:=by rw[hlast,Pl.byte_eq _ 32 _ rfl h32];rfl
       have Hn:Hid (p++Pl.rn (Pl.lastSp p) (s.data.toList.drop (k+1))=X):=Pl.rn_skip s.data.toList p X k hll hbl hls hp
       clear hp hbl hlast hls hm
       generalize p[m]=pc at *
       go_wp2_with fail
       refine(hB _).mono ?_
       rintro e w2 ⟨rfl,rfl⟩
       go_wp2
       go_roundw
       case rel=>exact⟨k+1,p,by omega,by go_num,by omega,Hn,hown,hb⟩
       case measure=>simp[Lib.intOf];omega
  ·have hpX:p=X:=Pl.rn_end s.data.toList p X k (by simp;omega) hp
   subst hpX
   clear hp
   by_cases h0:p.length=0
   ·obtain rfl:p=[]:=List.length_eq_zero_iff.1 h0
    have hbk:=hown.back (P:=Tryz.prog) 22 9 Tryz.underlying22 Tryz.underlying5 Tryz.underlying9
    have HR:Hid (Pl.bareEnd []=[]):=rfl
    clear h0
    rcases hown.form with ⟨rfl,-⟩|⟨g,cap,rfl⟩
    ·go_wp2
     go_ret
     exact⟨by rw[HR.out];rfl,hb⟩
    ·have hbk':(convert 22 9 (.slice (some ⟨g,0,none⟩) 0 cap)).run Tryz.prog wr=.ok (.string ⟨([]:List UInt8).toArray⟩) wr:=hbk
     go_wp2
     go_ret
     exact⟨by rw[HR.out];rfl,hb⟩
   ·rcases hown.form with ⟨-,hnil⟩|⟨g,cap,rfl⟩
    ·rw[hnil] at h0;exact absurd rfl h0
    ·obtain⟨m,hm⟩:∃m,p.length=m+1:=⟨p.length-1,by omega⟩
     have hml:m<p.length:=by omega
     have hc:=hown.cell m hml
     have hidx:(p.length:Int)-1=(m:Int):=by omega
     have hn0:(0:Int)<(p.length:Int):=by omega
     have hlast:Pl.lastSp p=(p[m]==32):=by
      rw[Pl.last_get p (by omega)]
      congr 2
      omega
     cases h32:((p[m].toNat:Int)==32)
     ·have hR:Pl.bareEnd p=p:=by
       unfold Pl.bareEnd
       rw[hlast,if_neg (by rw[beq_eq_false_iff_ne.2 (Pl.byte_ne _ 32 _ rfl h32)];simp)]
      have hbk:=hown.back (P:=Tryz.prog) 22 9 Tryz.underlying22 Tryz.underlying5 Tryz.underlying9
      have HR:Hid (Pl.bareEnd p=p):=hR
      clear hR hlast hm
      generalize p[m]=pc at *
      go_wp2
      go_ret
      exact⟨by rw[HR.out];rfl,hb⟩
     ·have hR:Pl.bareEnd p=p.take m:=by
       unfold Pl.bareEnd
       rw[hlast,Pl.byte_eq _ 32 _ rfl h32,if_pos (by decide),List.dropLast_eq_take]
       congr 1
       omega
      have hcut:=hown.cut m (by omega)
      have hbk:=hcut.back (P:=Tryz.prog) 22 9 Tryz.underlying22 Tryz.underlying5 Tryz.underlying9
      have HR:Hid (Pl.bareEnd p=p.take m):=hR
      have hmc:m≤cap:=by
       rcases hown.2 with ⟨h2,-⟩|⟨g',cap',cur,e1,e2,e3,e4,-⟩
       ·cases h2
       ·cases e1;omega
      clear hR hlast hm hcut
      generalize p[m]=pc at *
      go_wp2
      go_ret
      exact⟨by rw[HR.out];rfl,hb⟩
end Go.Proofs.YtacaoiedcfelcaaGreatDoor
